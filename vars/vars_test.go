package vars_test

import (
	"fmt"
	"maps"
	"regexp"
	"slices"
	"strings"
	"testing"

	"rejoinder/api"
	"rejoinder/vars"
)

// aMark is what a `$` and what is behind it may be, and a `$` that is wrong.
var aMark = regexp.MustCompile(`\$(\$|[a-z][a-z0-9_]*)?`)

// namesWant is P16.1 of Names word for word.
func namesWant(s string) ([]string, bool) {
	var l []string
	for _, m := range aMark.FindAllString(s, -1) {
		switch m {
		case "$":
			return nil, false
		case "$$":
		default:
			l = append(l, m[1:])
		}
	}
	return l, true
}

// model is P16.2 and P16.3 said word for word.
type model struct {
	values map[string]string
}

func (m model) set(name, value string) api.Errno {
	if len(value) > 1000 {
		return 71
	}
	if _, is := m.values[name]; !is && len(m.values) >= 16 {
		return 72
	}
	m.values[name] = value
	return 0
}

func (m model) clone() model { return model{maps.Clone(m.values)} }

// expand goes from byte to byte.
func (m model) expand(s string) (string, bool) {
	out := ""
	for i := 0; i < len(s); i++ {
		if s[i] != 36 {
			out += s[i : i+1]
			continue
		}
		if i+1 < len(s) && s[i+1] == 36 {
			out += "$"
			i++
			continue
		}
		name := ""
		for j := i + 1; j < len(s); j++ {
			small := s[j] >= 97 && s[j] <= 122
			if !small && (name == "" || s[j] != 95 && (s[j] < 48 || s[j] > 57)) {
				break
			}
			name += s[j : j+1]
		}
		value, is := m.values[name]
		if name == "" || !is {
			return "", false
		}
		out += value
		i += len(name)
	}
	return out, true
}

// odd are names that are asked for, set or not.
var odd = []string{"", "$", "$a", "a", "b", "ab", "abc", "a1", "a_", "A", "_", "1", "a b", " a", "a ", "a\x00", "\xff", "\xc3\xa9", "k0", "k9", "k15", "k16"}

// stands asks all that can be told, against the model.
func stands(t *testing.T, what string, v *vars.Vars, m model) {
	t.Helper()
	if v.Len() != len(m.values) {
		t.Fatalf("%s: Len %d, want %d of %q", what, v.Len(), len(m.values), m.values)
	}
	for name, want := range m.values {
		if got, ok := v.Get(name); got != want || !ok {
			t.Fatalf("%s: Get(%.99q) = %.99q, %v, want %.99q", what, name, got, ok, want)
		}
	}
	for _, name := range odd {
		want, is := m.values[name]
		if got, ok := v.Get(name); got != want || ok != is {
			t.Fatalf("%s: Get(%.99q) = %.99q, %v, want %.99q, %v", what, name, got, ok, want, is)
		}
	}
}

// sets sets a name in both.
func sets(t *testing.T, what string, v *vars.Vars, m model, name, value string) api.Errno {
	t.Helper()
	want := m.set(name, value)
	if got := v.Set(name, value); got != want {
		t.Fatalf("%s: Set(%.99q, %d bytes) = %d, want %d", what, name, len(value), got, want)
	}
	stands(t, what, v, m)
	return want
}

// pair is a new one and its model, with these names and values in turn.
func pair(t *testing.T, said ...string) (*vars.Vars, model) {
	t.Helper()
	v, m := vars.New(), model{map[string]string{}}
	for i := 0; i < len(said); i += 2 {
		sets(t, "made", v, m, said[i], said[i+1])
	}
	return v, m
}

// many are n names that are set, each with a value of its own.
func many(t *testing.T, n int) (*vars.Vars, model) {
	t.Helper()
	v, m := pair(t)
	for i := range n {
		sets(t, "made", v, m, fmt.Sprint("k", i), fmt.Sprint("v", i))
	}
	return v, m
}

// names holds Names against the chapter's words.
func names(t *testing.T, s string) ([]string, bool) {
	t.Helper()
	l, ok := vars.Names(s)
	want, is := namesWant(s)
	if !slices.Equal(l, want) || ok != is {
		t.Fatalf("Names(%.200q) = %.200q, %v, want %.200q, %v", s, l, ok, want, is)
	}
	return l, ok
}

// expands holds Expand against the chapter's words.
func expands(t *testing.T, v *vars.Vars, m model, s string) (string, bool) {
	t.Helper()
	got, ok := v.Expand(s)
	want, is := m.expand(s)
	if got != want || ok != is {
		t.Fatalf("Expand(%.200q) = %.200q, %v, want %.200q, %v", s, got, ok, want, is)
	}
	return got, ok
}

// each calls f with all texts of n of the letters.
func each(alphabet string, n int, f func(s string)) {
	if n == 0 {
		f("")
		return
	}
	each(alphabet, n-1, func(s string) {
		for i := range len(alphabet) {
			f(s + alphabet[i:i+1])
		}
	})
}

// P16.3: the chapter's example.
func TestExample(t *testing.T) {
	v := vars.New()
	if fault := v.Set("a", "x"); fault != api.OK {
		t.Fatal(fault)
	}
	if got, ok := v.Expand("$a.$$"); got != "x.$" || !ok {
		t.Errorf("%q, %v", got, ok)
	}
}

// P16.1: by hand: the names, in order, as often as they stand there; a pair of `$` is none, wherever it stands.
func TestNames(t *testing.T) {
	for s, want := range map[string]string{
		"":                        "",
		"a":                       "",
		"a b_1":                   "",
		"$a":                      "a",
		"$z":                      "z",
		"$a$a":                    "a a",
		"$b $a $b":                "b a b",
		"<$a.$b_1>":               "a b_1",
		"$$":                      "",
		"$$$$":                    "",
		"$$a":                     "",
		"$$$a":                    "a",
		"$a$$":                    "a",
		"$a$$b":                   "a",
		"$a$$$b":                  "a b",
		"a$b":                     "b",
		"$a-b":                    "a",
		"$aB":                     "a",
		"$a b":                    "a",
		"$a.b":                    "a",
		"$ab":                     "ab",
		"$a1b2":                   "a1b2",
		"$a_":                     "a_",
		"$a__1":                   "a__1",
		"$a{b}":                   "a",
		"$a\x00b":                 "a",
		"$a\xc3\xa9":              "a",
		"$a\xff$b":                "a b",
		"$let $mode":              "let mode",
		"$abcdefghijkl":           "abcdefghijkl",
		"$abcdefghijklm":          "abcdefghijklm",
		"$abcdefghijklmnopqrs_09": "abcdefghijklmnopqrs_09",
	} {
		if l, ok := names(t, s); strings.Join(l, " ") != want || !ok {
			t.Errorf("Names(%q) = %q, %v, want %s", s, l, ok, want)
		}
	}
}

// P16.1, P16.3, R2: by hand: a `$` that is wrong, wherever it stands, and whatever is set.
func TestWrong(t *testing.T) {
	v, m := pair(t, "a", "x", "", "none", "A", "big", "1", "one", "_", "line", " a", "blank", "$", "mark", "{a}", "in")
	for _, s := range []string{"$", "$ ", "$ a", "$A", "$1", "$_", "$_a", "$1a", "$.", "$-", "$\n", "$\x00", "$\xff", "$\xc3\xa9", "$`", "${", "${a}", "$\r\n", "$@", "$[", "$/", "$:", "$$$", "$$$$$", "$$$A", "a$", "$a$", "$a$ ", "$a$A", "$ $a", "$a $ $a", "$a$$$", "$A$a", "$$ $"} {
		if l, ok := names(t, s); ok || len(l) != 0 {
			t.Errorf("Names(%q) = %q, %v", s, l, ok)
		}
		if got, ok := expands(t, v, m, s); ok || got != "" {
			t.Errorf("Expand(%q) = %q, %v", s, got, ok)
		}
	}
}

// P16.3: by hand: values in the stead of names, the longest ones.
func TestExpand(t *testing.T) {
	v, m := pair(t, "a", "x", "ab", "yz", "a_1", "", "b", "$a$$ $", "c", "c", "z", "\x00\xff\r\n")
	for s, want := range map[string]string{
		"":           "",
		"a":          "a",
		"$a":         "x",
		"$a$a":       "xx",
		"$ab":        "yz",
		"$ab$a":      "yzx",
		"$a$ab":      "xyz",
		"$a b":       "x b",
		"$a$$b":      "x$b",
		"$$a":        "$a",
		"$$$a":       "$x",
		"$$$$":       "$$",
		"$$":         "$",
		"<$a_1>":     "<>",
		"$a_1$a_1":   "",
		"$b":         "$a$$ $",
		"$b$b":       "$a$$ $$a$$ $",
		"$ba":        "",
		"$b.a":       "$a$$ $.a",
		"$c$c":       "cc",
		"a$c":        "ac",
		"$zA":        "\x00\xff\r\nA",
		"\xff$a\xff": "\xffx\xff",
	} {
		got, ok := expands(t, v, m, s)
		if got != want || ok != (s != "$ba") {
			t.Errorf("Expand(%q) = %q, %v, want %q", s, got, ok, want)
		}
	}
}

// P16.3, R2: a name that is not set, also where another one begins it, or it another one, and where others are set ahead of it or behind.
func TestNotSet(t *testing.T) {
	v, m := pair(t, "ab", "x", "abcd", "y", "A", "z")
	for _, s := range []string{"$a", "$abc", "$abcde", "$b", "$ab$a", "$a$ab", "$ab $c", "$$ $a", "$ab_", "$ab1", "$abab", "$d$$"} {
		if got, ok := expands(t, v, m, s); got != "" || ok {
			t.Errorf("Expand(%q) = %q, %v", s, got, ok)
		}
		if _, ok := names(t, s); !ok {
			t.Errorf("Names(%q) is wrong", s)
		}
	}
	stands(t, "asked", v, m)
}

// P16.3: what a value has in it is laid down as it is, and makes no name with what is behind it, or ahead.
func TestValuesAreNotRead(t *testing.T) {
	v, m := pair(t, "a", "$", "b", "$b", "c", "a", "d", "$$", "e", "$ ", "ba", "no")
	for s, want := range map[string]string{
		"$a":    "$",
		"$a$a":  "$$",
		"$a$c":  "$a",
		"$a$$":  "$$",
		"$$$c":  "$a",
		"$$$a":  "$$",
		"$b":    "$b",
		"$b$c":  "$ba",
		"$d":    "$$",
		"$e":    "$ ",
		"$a.a":  "$.a",
		"$d$d":  "$$$$",
		"$$$b.": "$$b.",
	} {
		if got, ok := expands(t, v, m, s); got != want || !ok {
			t.Errorf("Expand(%q) = %q, %v, want %q", s, got, ok, want)
		}
	}
}

// P16.1, P16.3: all short texts of what the chapter's words part.
func TestAllShortTexts(t *testing.T) {
	v, m := pair(t, "a", "x$", "b", "", "ab", "$a", "a1", "<1>", "b_", "_", "1", "no", "B", "no")
	for n := range 7 {
		each("$ab1_B.", n, func(s string) {
			names(t, s)
			expands(t, v, m, s)
		})
	}
	for n := range 11 {
		each("$a ", n, func(s string) {
			names(t, s)
			expands(t, v, m, s)
		})
	}
}

// P16.1, P16.3: each byte, and each two, behind a `$` and within a name; each alone.
func TestEachByte(t *testing.T) {
	v, m := pair(t, "a", "x", "b", "y", "az", "zz", "a0", "nought", "a_", "line")
	for c := range 256 {
		one := string([]byte{byte(c)})
		for _, s := range []string{one, one + one, "$" + one, one + "$", "$a" + one, one + "$a", "$a" + one + "b", "$" + one + "a", "$a" + one + "$b", "$$" + one, "$$" + one + "$$", "$" + one + "$", "$a" + one + one} {
			names(t, s)
			expands(t, v, m, s)
		}
		for d := range 256 {
			two := string([]byte{byte(c), byte(d)})
			for _, s := range []string{two, "$" + two, "$a" + two} {
				names(t, s)
				expands(t, v, m, s)
			}
		}
	}
}

// P16.1, P16.3: each byte that may be first in a name is all of one, and each that may be behind goes on with it: just these.
func TestEachName(t *testing.T) {
	const small, other = "abcdefghijklmnopqrstuvwxyz", "0123456789_"
	for c := range 256 {
		one := string([]byte{byte(c)})
		if _, ok := names(t, "$"+one); ok != strings.Contains(small+"$", one) {
			t.Errorf("`$` and the byte %d: %v", c, ok)
		}
		l, ok := names(t, "$q"+one+".")
		if want := strings.Contains(small+other, one); ok != (one != "$") || want != slices.Equal(l, []string{"q" + one}) {
			t.Errorf("a name and the byte %d: %q, %v", c, l, ok)
		}
	}
	v, m := pair(t, small+other+small, "all")
	if got, ok := expands(t, v, m, "$"+small+other+small+"."); got != "all." || !ok {
		t.Errorf("%q, %v", got, ok)
	}
}

// P16.2: by hand: what is set, and set anew; a name without a value is set, too.
func TestSet(t *testing.T) {
	v, m := pair(t)
	stands(t, "new", v, m)
	for i, x := range []struct {
		name, value string
		len         int
	}{{"a", "x", 1}, {"b", "", 2}, {"a", "y", 2}, {"a", "", 2}, {"b", "z", 2}, {"ab", "w", 3}, {"a", "y", 3}, {"ab", "w", 3}, {"A", "big", 4}} {
		if fault := sets(t, "by hand", v, m, x.name, x.value); fault != api.OK {
			t.Fatal(i, fault)
		}
		if got, ok := v.Get(x.name); got != x.value || !ok || v.Len() != x.len {
			t.Fatalf("%d: Get(%q) = %q, %v, Len %d", i, x.name, got, ok, v.Len())
		}
	}
	if got, ok := v.Get("c"); got != "" || ok {
		t.Errorf("Get of what is not set is %q, %v", got, ok)
	}
	if got, ok := vars.New().Get(""); got != "" || ok {
		t.Errorf("Get of no name in a new one is %q, %v", got, ok)
	}
}

// P16.2: a name is any, and names are alike just if all their bytes are; what no text can tell is got, and not expanded.
func TestAnyName(t *testing.T) {
	for _, a := range odd {
		for _, b := range odd {
			v, m := pair(t, a, "1"+a, b, "2"+b)
			want := 2
			if a == b {
				want = 1
			}
			if v.Len() != want {
				t.Errorf("%q and %q: Len %d", a, b, v.Len())
			}
			expands(t, v, m, "$"+a)
			expands(t, v, m, "$"+b+".$"+a)
		}
	}
	for _, n := range []int{11, 12, 13, 100, 1000, 1001, 1 << 20} {
		name := strings.Repeat("n", n)
		v, _ := pair(t, name, "long", name[1:], "less", name+"n", "more")
		for s, want := range map[string]string{name: "long", name[1:]: "less", name + "n": "more"} {
			if got, ok := v.Expand("<$" + s + ">"); got != "<"+want+">" || !ok {
				t.Errorf("a name of %d bytes: %.99q, %v", len(s), got, ok)
			}
			if l, ok := vars.Names("$" + s + "$" + s); len(l) != 2 || l[0] != s || l[1] != s || !ok {
				t.Errorf("a name of %d bytes: %d, %v", len(s), len(l), ok)
			}
		}
	}
}

// P16.2, R2: a value has up to 1000 bytes, whichever they are; of a greater one nothing changes, set ahead of it or not.
func TestTooLarge(t *testing.T) {
	for _, n := range []int{0, 1, 2, 12, 119, 999, 1000, 1001, 1002, 1024, 2000, 1 << 20} {
		for _, part := range []string{"a", "\x00", "\xff", "$", "\xc3\xa9", "\n"} {
			value := strings.Repeat(part, n)[:n]
			v, m := pair(t, "b", "is")
			for _, name := range []string{"a", "b", "", "a"} {
				if fault := sets(t, "large", v, m, name, value); (fault == api.ErrTooLarge) != (n > api.MaxValue) {
					t.Errorf("%d bytes: %d", n, fault)
				}
			}
			if got, ok := v.Get("a"); ok != (n <= 1000) || ok && got != value {
				t.Errorf("%d bytes: %d, %v", n, len(got), ok)
			}
			if got, _ := v.Get("b"); n > 1000 && got != "is" {
				t.Errorf("%d bytes: %q", n, got)
			}
			if got, ok := v.Expand("<$b$b>"); !ok || n <= 1000 && got != "<"+value+value+">" || n > 1000 && got != "<isis>" {
				t.Errorf("%d bytes: %.99q, %v", n, got, ok)
			}
		}
	}
}

// P16.2, R2: sixteen may be set, whatever they are named, and one more may not; those that are set may be set anew, and nothing else changes.
func TestFull(t *testing.T) {
	for n := range 20 {
		v, m := many(t, n)
		if v.Len() != min(n, 16) {
			t.Fatalf("%d set: Len %d", n, v.Len())
		}
		for _, name := range []string{"k0", "k15", "K0", "k0 ", "k", "k16", "", "a"} {
			_, is := m.values[name]
			want := api.OK
			if !is && v.Len() == 16 {
				want = api.ErrFull
			}
			for _, value := range []string{"", "x", strings.Repeat("y", 1000)} {
				if got := sets(t, "full", v, m, name, value); got != want {
					t.Errorf("%d set: Set(%q) = %d, want %d", n, name, got, want)
				}
			}
		}
	}
	v, m := pair(t)
	for i := range 16 {
		if fault := sets(t, "empty values", v, m, strings.Repeat("a", i), ""); fault != api.OK {
			t.Fatal(i, fault)
		}
	}
	for range 3 {
		if fault := sets(t, "empty values", v, m, "b", ""); fault != api.ErrFull {
			t.Fatal(fault)
		}
		expands(t, v, m, "$b")
		expands(t, v, m, "$a$aa")
	}
}

// P16.2, R3: of a value that is too large for a name that has no room, the value is told.
func TestTooLargeAheadOfFull(t *testing.T) {
	v, m := many(t, 16)
	for _, name := range []string{"a", "", "k0", "k16"} {
		if fault := sets(t, "both", v, m, name, strings.Repeat("x", 1001)); fault != api.ErrTooLarge {
			t.Errorf("Set(%q) = %d", name, fault)
		}
	}
	if fault := sets(t, "full", v, m, "a", strings.Repeat("x", 1000)); fault != api.ErrFull {
		t.Errorf("%d", fault)
	}
}

// P16.2: all short rows of Set and Clone, from none and from nearly full ones; each step is left as it was.
func TestAllShortRows(t *testing.T) {
	large := strings.Repeat("l", 1001)
	var walk func(v *vars.Vars, m model, left int)
	walk = func(v *vars.Vars, m model, left int) {
		if left == 0 {
			return
		}
		for _, name := range []string{"a", "b", "k0", ""} {
			for _, value := range []string{"", "$b", large} {
				next, after := v.Clone(), m.clone()
				sets(t, "row", next, after, name, value)
				expands(t, next, after, "$a-$b")
				expands(t, next, after, "$k0$$")
				walk(next, after, left-1)
			}
		}
		stands(t, "left behind", v, m)
	}
	for _, n := range []int{0, 1, 13, 14, 15, 16} {
		v, m := many(t, n)
		walk(v, m, 3)
	}
}

// P16.2: long rows without clones, so that what holds does not hang on them.
func TestLongRows(t *testing.T) {
	for seed := range uint32(100) {
		v, m := pair(t)
		x := seed*2654435761 + 1
		for range 100 {
			x = x*1664525 + 1013904223
			name := fmt.Sprint("k", (x>>24)%23)
			value := strings.Repeat("v", int(x>>8)%1050)
			sets(t, "row", v, m, name, value)
			expands(t, v, m, "$k0$"+name)
		}
	}
}

// P16.2: a clone and what it was made of go their own ways, whichever of them goes first; a new one's clone, too.
func TestCloneGoesItsOwnWay(t *testing.T) {
	for n := range 17 {
		v, m := many(t, n)
		c, mc := v.Clone(), m.clone()
		stands(t, "clone", c, mc)
		sets(t, "first", v, m, "k0", "first")
		stands(t, "clone", c, mc)
		sets(t, "clone", c, mc, "a", "of the clone")
		stands(t, "first", v, m)
		sets(t, "clone", c, mc, "k0", "clone")
		stands(t, "first", v, m)
		d, md := c.Clone(), mc.clone()
		sets(t, "first", v, m, "b", "of the first")
		sets(t, "clone's clone", d, md, "k1", "d")
		sets(t, "clone", c, mc, "ab", "c")
		for i := range 20 {
			name := fmt.Sprint("n", i)
			sets(t, "clone's clone", d, md, name, "d")
			sets(t, "first", v, m, name, "v")
		}
		stands(t, "first", v, m)
		stands(t, "clone", c, mc)
		stands(t, "clone's clone", d, md)
		for _, s := range []string{"$k0", "$a", "$b", "$n0", "$k1.$k0"} {
			expands(t, v, m, s)
			expands(t, c, mc, s)
			expands(t, d, md, s)
		}
	}
}

// P16.4: what has no `$` stands for itself, whatever is set, and has no names.
func TestStandsForItself(t *testing.T) {
	none, nothing := pair(t)
	full, all := many(t, 16)
	var row []byte
	for i := range 5000 {
		if c := byte(i * 7); c != '$' {
			row = append(row, c)
		}
	}
	texts := []string{"", "a", "k0", "{k0}", "%k0", "k0 k1", "\\", "\\k0", "#k0", "\r\n", "\x00", "\xff\xfe", "\xe2\x82\xac", "\xef\xbc\x84k0", "\xa4", "\xed\xa0\x80", "S", "220 hi", string(row), strings.Repeat("k0 ", 1000)}
	for _, s := range texts {
		for _, x := range []struct {
			v *vars.Vars
			m model
		}{{none, nothing}, {full, all}} {
			if got, ok := expands(t, x.v, x.m, s); got != s || !ok {
				t.Errorf("Expand(%.99q) = %.99q, %v", s, got, ok)
			}
		}
		if l, ok := names(t, s); len(l) != 0 || !ok {
			t.Errorf("Names(%.99q) = %q, %v", s, l, ok)
		}
	}
}

// P16.1, P16.3: a text is expanded just if it has names, and each of them is set: with one of them less it is not.
func TestNamesAreThoseThatExpandAsks(t *testing.T) {
	for n := range 6 {
		each("$ab1 ", n, func(s string) {
			l, ok := names(t, s)
			v, m := pair(t)
			for _, name := range l {
				sets(t, "names", v, m, name, "["+name+"]")
			}
			if _, is := expands(t, v, m, s); is != ok {
				t.Fatalf("Expand(%q): %v, with %q", s, is, l)
			}
			for _, name := range l {
				w, less := pair(t)
				for other, value := range m.values {
					if other != name {
						sets(t, "less", w, less, other, value)
					}
				}
				if _, is := expands(t, w, less, s); is {
					t.Fatalf("Expand(%q) without %q", s, name)
				}
			}
		})
	}
}

// R6: to ask changes nothing, and the same is answered again; two have nothing of each other.
func TestAskingChangesNothing(t *testing.T) {
	v, m := pair(t, "a", "x", "b", "$a")
	other, mo := pair(t, "a", "y")
	for range 3 {
		for _, s := range []string{"$a$b", "$c", "$", "c", "$$"} {
			names(t, s)
			expands(t, v, m, s)
			expands(t, other, mo, s)
		}
		v.Get("c")
		v.Clone().Set("c", "z")
		sets(t, "clone", v.Clone(), m.clone(), "a", "z")
		stands(t, "asked", v, m)
		stands(t, "other", other, mo)
	}
	sets(t, "set", v, m, "a", "w")
	stands(t, "other", other, mo)
}

// R7: a list of names is the caller's own: to change it, and to put others behind it, changes no other.
func TestAnswersAreOnesOwn(t *testing.T) {
	for n := range 20 {
		s := strings.Repeat("$a.$b_1 ", n)
		first, _ := vars.Names(s)
		second, _ := vars.Names(s)
		for i := range first {
			first[i] = "spoilt"
		}
		_ = append(first, "behind", "it")
		want, _ := namesWant(s)
		if !slices.Equal(second, want) {
			t.Fatalf("Names(%q) = %q", s, second)
		}
		names(t, s)
	}
}

// R1: very long texts end, and so does what they come to; one that New did not make has none set.
func TestGreat(t *testing.T) {
	const n = 1 << 20
	v, _ := pair(t, "a", "xy", "none", "", "great", strings.Repeat("g", 1000))
	for _, x := range []struct{ part, want string }{{"$a", "xy"}, {"$$", "$"}, {"$none", ""}, {"$a ", "xy "}, {"$a$$", "xy$"}, {"b", "b"}} {
		got, ok := v.Expand(strings.Repeat(x.part, n))
		if !ok || got != strings.Repeat(x.want, n) {
			t.Errorf("many of %q: %d bytes, %v", x.part, len(got), ok)
		}
		if got, ok := v.Expand(strings.Repeat(x.part, n) + "$"); ok || got != "" {
			t.Errorf("many of %q, and a `$`: %d bytes, %v", x.part, len(got), ok)
		}
		l, ok := vars.Names(strings.Repeat(x.part, n))
		if !ok || len(l) != n*strings.Count(strings.ReplaceAll(x.part, "$$", ""), "$") {
			t.Errorf("many of %q: %d names, %v", x.part, len(l), ok)
		}
		if l, ok := vars.Names(strings.Repeat(x.part, n) + "$"); ok || len(l) != 0 {
			t.Errorf("many of %q, and a `$`: %d names, %v", x.part, len(l), ok)
		}
	}
	if got, ok := v.Expand(strings.Repeat("$great", 10000)); len(got) != 10000*1000 || !ok {
		t.Errorf("%d bytes, %v", len(got), ok)
	}
	made := new(vars.Vars)
	m := model{map[string]string{}}
	stands(t, "not made", made, m)
	expands(t, made, m, "$a")
	stands(t, "not made, cloned", made.Clone(), m)
	sets(t, "not made", made, m, "a", "x")
	expands(t, made, m, "$a")
}
