package addr_test

import (
	"fmt"
	"math"
	"math/big"
	"slices"
	"strings"
	"testing"

	"rejoinder/addr"
	"rejoinder/api"
	"rejoinder/reply"
)

// isDigit is 0 to 9, of bytes.
func isDigit(c byte) bool { return c >= 48 && c <= 57 }

// valueOf is the number that digits are.
func valueOf(s string) int {
	n := 0
	for i := range len(s) {
		n = n*10 + int(s[i]) - 48
	}
	return n
}

// allDigits tells whether a text is digits, and some.
func allDigits(s string) bool {
	for i := range len(s) {
		if !isDigit(s[i]) {
			return false
		}
	}
	return s != ""
}

// sixWant tries each length of each number in turn: it tells the numbers behind those that are there, if one way fits.
func sixWant(s string, there []int) ([]int, bool) {
	for n := 1; n <= 3 && n <= len(s); n++ {
		if !allDigits(s[:n]) || valueOf(s[:n]) > 255 {
			continue
		}
		l := append(slices.Clone(there), valueOf(s[:n]))
		behind := s[n:]
		if len(l) == 6 {
			if behind == "" || !isDigit(behind[0]) {
				return l, true
			}
			continue
		}
		if behind == "" || behind[0] != 44 {
			continue
		}
		if l, ok := sixWant(behind[1:], l); ok {
			return l, true
		}
	}
	return nil, false
}

// pasvWant is P13.1 word for word.
func pasvWant(s string) (api.Addr, bool) {
	at := 0
	for at < len(s) && !isDigit(s[at]) {
		at++
	}
	l, ok := sixWant(s[at:], nil)
	if !ok || l[4]*256+l[5] == 0 {
		return api.Addr{}, false
	}
	return api.Addr{Host: [4]int{l[0], l[1], l[2], l[3]}, Port: l[4]*256 + l[5]}, true
}

// epsvWant is P13.2 word for word.
func epsvWant(s string) (api.Addr, bool) {
	at := 0
	for at < len(s) && s[at] != 40 {
		at++
	}
	if len(s)-at < 5 {
		return api.Addr{}, false
	}
	d := s[at+1]
	if d < 33 || d > 126 || isDigit(d) || s[at+2] != d || s[at+3] != d {
		return api.Addr{}, false
	}
	from := at + 4
	for n := 1; n <= 5 && from+n+1 < len(s); n++ {
		number := s[from : from+n]
		if allDigits(number) && valueOf(number) >= 1 && valueOf(number) <= 65535 && s[from+n] == d && s[from+n+1] == 41 {
			return api.Addr{Port: valueOf(number)}, true
		}
	}
	return api.Addr{}, false
}

// textWant is P13.3 word for word, by numbers that do not wrap round.
func textWant(a api.Addr) string {
	by, rest := new(big.Int).DivMod(big.NewInt(int64(a.Port)), big.NewInt(256), new(big.Int))
	return fmt.Sprintf("%d,%d,%d,%d,%d,%d", a.Host[0], a.Host[1], a.Host[2], a.Host[3], by, rest)
}

// pasv holds Pasv against the chapter's words.
func pasv(t *testing.T, s string) (api.Addr, bool) {
	t.Helper()
	a, ok := addr.Pasv(s)
	if b, is := pasvWant(s); a != b || ok != is {
		t.Fatalf("Pasv(%.200q) = %v, %v, want %v, %v", s, a, ok, b, is)
	}
	return a, ok
}

// epsv holds Epsv against the chapter's words.
func epsv(t *testing.T, s string) (api.Addr, bool) {
	t.Helper()
	a, ok := addr.Epsv(s)
	if b, is := epsvWant(s); a != b || ok != is {
		t.Fatalf("Epsv(%.200q) = %v, %v, want %v, %v", s, a, ok, b, is)
	}
	return a, ok
}

// written holds Text against the chapter's words.
func written(t *testing.T, a api.Addr) string {
	t.Helper()
	s := addr.Text(a)
	if want := textWant(a); s != want {
		t.Fatalf("Text(%v) = %q, want %q", a, s, want)
	}
	return s
}

// at is an address of these numbers.
func at(a, b, c, d, port int) api.Addr { return api.Addr{Host: [4]int{a, b, c, d}, Port: port} }

// each calls f with all texts of n of the letters.
func each(alphabet string, n int, f func(s string)) {
	if n == 0 {
		f("")
		return
	}
	each(alphabet, n-1, func(s string) {
		for i := range len(alphabet) {
			f(s + alphabet[i:i+1])
		}
	})
}

// nearby calls f with s, and with each text that is s with one byte left out, or put in, or another one in its stead, or with its end left out, or its beginning.
func nearby(s string, f func(s string)) {
	f(s)
	for i := range len(s) + 1 {
		f(s[:i])
		f(s[i:])
		if i < len(s) {
			f(s[:i] + s[i+1:])
		}
		for c := range 256 {
			b := string([]byte{byte(c)})
			f(s[:i] + b + s[i:])
			if i < len(s) {
				f(s[:i] + b + s[i+1:])
			}
		}
	}
}

// P13.1: the chapter's example.
func TestExample(t *testing.T) {
	if a, ok := addr.Pasv("ok (10,0,0,1,4,1)."); a != at(10, 0, 0, 1, 1025) || !ok {
		t.Error(a, ok)
	}
}

// P13.1: by examples: what is an address.
func TestPasv(t *testing.T) {
	for s, want := range map[string]api.Addr{
		"1,2,3,4,5,6":                            at(1, 2, 3, 4, 5*256+6),
		"Entering Passive Mode (127,0,0,1,4,1).": at(127, 0, 0, 1, 1025),
		"=127,0,0,1,4,1":                         at(127, 0, 0, 1, 1025),
		"0,0,0,0,0,1":                            at(0, 0, 0, 0, 1),
		"0,0,0,0,1,0":                            at(0, 0, 0, 0, 256),
		"1,2,3,4,5,0":                            at(1, 2, 3, 4, 1280),
		"1,2,3,4,0,5":                            at(1, 2, 3, 4, 5),
		"255,255,255,255,255,255":                at(255, 255, 255, 255, 65535),
		"000,000,000,000,000,001":                at(0, 0, 0, 0, 1),
		"01,002,3,04,005,6":                      at(1, 2, 3, 4, 1286),
		"1,2,3,4,5,6,":                           at(1, 2, 3, 4, 1286),
		"1,2,3,4,5,6,7,8":                        at(1, 2, 3, 4, 1286),
		"1,2,3,4,5,6,,":                          at(1, 2, 3, 4, 1286),
		"1,2,3,4,5,6 7":                          at(1, 2, 3, 4, 1286),
		"1,2,3,4,5,6.7":                          at(1, 2, 3, 4, 1286),
		"1,2,3,4,5,6)(7,7,7,7,7,7)":              at(1, 2, 3, 4, 1286),
		",,,1,2,3,4,5,6":                         at(1, 2, 3, 4, 1286),
		"-1,2,3,4,5,6":                           at(1, 2, 3, 4, 1286),
		"a\r\n\x00\xff1,2,3,4,5,6\x00":           at(1, 2, 3, 4, 1286),
		"\xc3\u0661\uff111,2,3,4,5,6\u0661":      at(1, 2, 3, 4, 1286),
		"((((1,2,3,4,5,6":                        at(1, 2, 3, 4, 1286),
	} {
		if a, ok := pasv(t, s); a != want || !ok {
			t.Errorf("%q: %v, %v", s, a, ok)
		}
	}
}

// P13.1: by examples: what is none. The first digit alone counts: behind what is wrong nothing is looked for.
func TestPasvWrong(t *testing.T) {
	for _, s := range []string{
		"", "a", ",", ",,,,,", "(,,,,,)", "()", "1", "1,", "1,2,3,4,5", "1,2,3,4,5,", "1,2,3,4,5,)", "1,2,3,4,,6", "1,2,3,,5,6", ",2,,4,5,6,7",
		"0,0,0,0,0,0", "1,2,3,4,0,0", "1,2,3,4,000,000", "255,255,255,255,0,0",
		"256,2,3,4,5,6", "1,256,3,4,5,6", "1,2,256,4,5,6", "1,2,3,256,5,6", "1,2,3,4,256,6", "1,2,3,4,5,256", "1,2,3,4,5,999", "1,2,3,4,5,300",
		"0001,2,3,4,5,6", "1,0002,3,4,5,6", "1,2,0003,4,5,6", "1,2,3,0004,5,6", "1,2,3,4,0005,6", "1,2,3,4,5,0006", "1,2,3,4,5,0000", "1,2,3,4,5,1234", "1,2,3,4,5,2555",
		"1, 2,3,4,5,6", "1 ,2,3,4,5,6", "1,2,3,4,5, 6", "1.2.3.4.5.6", "1;2;3;4;5;6", "1,2,3,4.5,6", "1,2,3,4,5;6", "1,-2,3,4,5,6", "1,+2,3,4,5,6", "1,2,3,4,5,-6", "1,2,3,4,5,a", "1,2,3,4,5,\u0661", "1,\xff2,3,4,5,6",
		"227 1,2,3,4,5,6", "7 (1,2,3,4,5,6)", "v1 1,2,3,4,5,6", "9,1 1,2,3,4,5,6", "1,2,3,4,5\r\n,6",
		"(|||1025|)", "100000000000000000000,2,3,4,5,6", "1,2,3,4,5,18446744073709551617", "1,2,3,4,5,4294967297",
	} {
		if a, ok := pasv(t, s); a != (api.Addr{}) || ok {
			t.Errorf("%q: %v, %v", s, a, ok)
		}
	}
}

// P13.1: each number at each place, with up to three noughts ahead, is that number, or too great, or too long.
func TestPasvEachNumber(t *testing.T) {
	for place := range 6 {
		for n := range 1200 {
			for width := 1; width <= 5; width++ {
				parts := []string{"1", "2", "3", "4", "5", "6"}
				parts[place] = fmt.Sprintf("%0*d", width, n)
				values := []int{1, 2, 3, 4, 5, 6}
				values[place] = n
				want, is := at(values[0], values[1], values[2], values[3], values[4]*256+values[5]), n <= 255 && len(parts[place]) <= 3
				if !is {
					want = api.Addr{}
				}
				s := strings.Join(parts, ",")
				if a, ok := pasv(t, s); a != want || ok != is {
					t.Fatalf("%q: %v, %v", s, a, ok)
				}
			}
		}
	}
}

// P13.1: each pair of the two numbers that are a port: 0 alone is none.
func TestPasvEachPort(t *testing.T) {
	for first := range 256 {
		for second := range 256 {
			port := first*256 + second
			a, ok := addr.Pasv(fmt.Sprintf("x 9,8,7,6,%d,%d x", first, second))
			want := at(9, 8, 7, 6, port)
			if port == 0 {
				want = api.Addr{}
			}
			if a != want || ok != (port != 0) {
				t.Fatalf("%d, %d: %v, %v", first, second, a, ok)
			}
		}
	}
}

// P13.1: the numbers of a host each have their own place.
func TestPasvHosts(t *testing.T) {
	some := []int{0, 1, 9, 10, 99, 100, 127, 128, 254, 255}
	for _, i := range some {
		for _, j := range some {
			for _, k := range some {
				for _, l := range some {
					s := fmt.Sprintf("%d,%d,%d,%d,0,1", i, j, k, l)
					if a, ok := addr.Pasv(s); a != at(i, j, k, l, 1) || !ok {
						t.Fatalf("%q: %v, %v", s, a, ok)
					}
				}
			}
		}
	}
}

// P13.1: texts that are nearly an address, by each byte at each place.
func TestPasvNearby(t *testing.T) {
	for _, s := range []string{"ok (10,0,0,1,4,1).", "1,2,3,4,5,6", "(255,025,5,0,0,1)", "1,2,3,4,0,0", "99,100,255,256,25,26", "1,22,333,4,55,255", "1,2,3,4,5,", "a,1,2,3,4,5"} {
		nearby(s, func(s string) { pasv(t, s) })
	}
}

// P13.1: all short texts ahead of an address, within it, and behind it; and all short ones alone.
func TestPasvAllShort(t *testing.T) {
	for n := range 6 {
		each("05,a", n, func(s string) {
			for _, x := range []string{s, s + "1,2,3,4,5,6", s + ",2,3,4,5,6", "1,2,3," + s + ",5,6", "1,2,3" + s + "5,6", "1,2,3,4" + s, "1,2,3,4,5" + s, "1,2,3,4,5,6" + s} {
				pasv(t, x)
			}
		})
	}
	for n := 11; n < 17; n++ {
		each("1,", n, func(s string) { pasv(t, s) })
	}
}

// P13.1: all rows of six parts, some of which are none.
func TestPasvRows(t *testing.T) {
	parts := []string{"", "0", "7", "255", "256", "0007", "x"}
	each("0123456", 6, func(picked string) {
		var row []string
		for i := range len(picked) {
			row = append(row, parts[picked[i]-48])
		}
		pasv(t, strings.Join(row, ","))
	})
}

// P13.2: by examples: what is a port. d is any byte of 33 to 126 that is no digit, those that open and close too.
func TestEpsv(t *testing.T) {
	for s, port := range map[string]int{
		"(|||1025|)": 1025,
		"Entering Extended Passive Mode (|||6446|)": 6446,
		"(|||1|)":              1,
		"(|||65535|)":          65535,
		"(|||00001|)":          1,
		"(|||09999|)":          9999,
		"(!!!7!)":              7,
		"(~~~7~)":              7,
		"((((7()":              7,
		"()))7))":              7,
		"(,,,7,)":              7,
		"(---7-)":              7,
		"(AAA7A)":              7,
		"(zzz7z)":              7,
		"229 (|||7|)":          7,
		")|||9|)(|||7|)":       7,
		"a\x00\xff\r\n(|||7|)": 7,
		"(|||7|))":             7,
		"(|||7|)9":             7,
		"(|||7|) (|||9|)":      7,
		"(|||7|)\xff":          7,
	} {
		if a, ok := epsv(t, s); a != at(0, 0, 0, 0, port) || !ok {
			t.Errorf("%q: %v, %v", s, a, ok)
		}
	}
}

// P13.2: by examples: what is none. The first `(` alone counts.
func TestEpsvWrong(t *testing.T) {
	for _, s := range []string{
		"", "(", "((", "()", "(|", "(||", "(|||", "(|||7", "(|||7|", "|||7|)", "(|||7)", "(|||)", "(||||)", "(||7|)", "(|7|)", "(7|)", "(||||7|)", "(|||7||)", "(|||7|]",
		"(|||0|)", "(|||00000|)", "(|||65536|)", "(|||99999|)", "(|||000001|)", "(|||100000|)", "(|||4294967297|)", "(|||18446744073709551617|)",
		"(|||-7|)", "(|||+7|)", "(||| 7|)", "(|||7 |)", "(|||7| )", "( |||7|)", "(|||7.|)", "(|||0x7|)", "(|||7a|)", "(|||a|)", "(|||\u0661|)",
		"(|||7!)", "(||!7|)", "(|!|7|)", "(!||7|)", "(!|!7!)", "(|!!7!)",
		"(00070)", "(11171)", "(99979)", "(555555)", "(   7 )", "(\t\t\t7\t)", "(\x00\x00\x007\x00)", "(\x1f\x1f\x1f7\x1f)", "(\x7f\x7f\x7f7\x7f)", "(\x80\x80\x807\x80)", "(\xff\xff\xff7\xff)", "(\u00a7\u00a7\u00a77\u00a7)",
		"((|||7|)", "() (|||7|)", "(a) (|||7|)", "(|||0|)(|||7|)", "(((7()", "(((((7()", "())7))", "()))7)",
		"1,2,3,4,5,6", "(1,2,3,4,5,6)", "(|1|10.0.0.1|7|)",
	} {
		if a, ok := epsv(t, s); a != (api.Addr{}) || ok {
			t.Errorf("%q: %v, %v", s, a, ok)
		}
	}
}

// P13.2: each byte as d at all places, and each at one place beside each other one.
func TestEpsvEachMark(t *testing.T) {
	for c := range 256 {
		d := string([]byte{byte(c)})
		want := c >= 33 && c <= 126 && (c < 48 || c > 57)
		if a, ok := epsv(t, "x("+d+d+d+"80"+d+")x"); ok != want || ok && a.Port != 80 {
			t.Errorf("%q: %v, %v", d, a, ok)
		}
		for e := range 256 {
			b := string([]byte{byte(e)})
			for _, s := range []string{"(" + b + d + d + "80" + d + ")", "(" + d + b + d + "80" + d + ")", "(" + d + d + b + "80" + d + ")", "(" + d + d + d + "80" + b + ")", "(" + d + d + d + "80" + d + b} {
				epsv(t, s)
			}
		}
	}
}

// P13.2: each number, with noughts ahead: from 1 to 65535, of one to five digits.
func TestEpsvEachNumber(t *testing.T) {
	for n := range 70000 {
		plain := fmt.Sprint(n)
		for _, number := range []string{plain, "0" + plain, fmt.Sprintf("%05d", n), fmt.Sprintf("%06d", n)} {
			is := n >= 1 && n <= 65535 && len(number) <= 5
			want := api.Addr{}
			if is {
				want.Port = n
			}
			if a, ok := addr.Epsv("(|||" + number + "|)"); a != want || ok != is {
				t.Fatalf("%s: %v, %v", number, a, ok)
			}
		}
	}
	for n := range 25 {
		epsv(t, "(|||"+strings.Repeat("1", n)+"|)")
		epsv(t, "(|||"+strings.Repeat("0", n)+"1|)")
		epsv(t, "(|||"+strings.Repeat("9", n)+"|)")
	}
}

// P13.2: texts that are nearly a port, by each byte at each place.
func TestEpsvNearby(t *testing.T) {
	for _, s := range []string{"ok (|||1025|)", "(!!!7!) x", "((((7()", "()))7))", "(|||65535|)", "(|||0|)", "(aaa1a)(bbb2b)", "(55535)"} {
		nearby(s, func(s string) { epsv(t, s) })
	}
}

// P13.2: all short texts, and all short ones ahead of a port, within it, and behind it.
func TestEpsvAllShort(t *testing.T) {
	for n := range 9 {
		each("(|)7", n, func(s string) { epsv(t, s) })
	}
	for n := range 5 {
		each("(|)0 !", n, func(s string) {
			for _, x := range []string{s + "(|||7|)", "(" + s + "7|)", "(" + s + "|7|)", "(|||" + s + "|)", "(|||7" + s, "(|||7" + s + ")", "(|||7|)" + s} {
				epsv(t, x)
			}
		})
	}
}

// P13.3: by examples, numbers that are none of an address too: by 256 is rounded down, not towards 0, and the rest is 0 to 255.
func TestText(t *testing.T) {
	for _, x := range []struct {
		a    api.Addr
		want string
	}{
		{api.Addr{}, "0,0,0,0,0,0"},
		{at(10, 0, 0, 1, 1025), "10,0,0,1,4,1"},
		{at(1, 2, 3, 4, 0), "1,2,3,4,0,0"},
		{at(1, 2, 3, 4, 255), "1,2,3,4,0,255"},
		{at(1, 2, 3, 4, 256), "1,2,3,4,1,0"},
		{at(255, 255, 255, 255, 65535), "255,255,255,255,255,255"},
		{at(256, 1000, -1, -256, 65536), "256,1000,-1,-256,256,0"},
		{at(0, 0, 0, 0, -1), "0,0,0,0,-1,255"},
		{at(0, 0, 0, 0, -255), "0,0,0,0,-1,1"},
		{at(0, 0, 0, 0, -256), "0,0,0,0,-1,0"},
		{at(0, 0, 0, 0, -257), "0,0,0,0,-2,255"},
		{at(0, 0, 0, 0, 1<<53+1), "0,0,0,0,35184372088832,1"},
		{at(0, 0, 0, 0, math.MaxInt), "0,0,0,0,36028797018963967,255"},
		{at(0, 0, 0, 0, math.MinInt), "0,0,0,0,-36028797018963968,0"},
		{at(0, 0, 0, 0, math.MinInt+1), "0,0,0,0,-36028797018963968,1"},
		{at(math.MaxInt, math.MinInt, 0, 7, 7), "9223372036854775807,-9223372036854775808,0,7,0,7"},
	} {
		if got := written(t, x.a); got != x.want {
			t.Errorf("%v: %q, want %q", x.a, got, x.want)
		}
	}
}

// P13.3: ports around each power of two, both ways, and a row of them around 0: none is rounded but down.
func TestTextPorts(t *testing.T) {
	for port := -70000; port <= 70000; port++ {
		written(t, at(1, 2, 3, 4, port))
	}
	for bit := range 64 {
		for near := -600; near <= 600; near++ {
			written(t, at(0, 0, 0, 0, 1<<bit+near))
			written(t, at(0, 0, 0, 0, -1<<bit+near))
			written(t, at(0, 0, 0, 0, 3<<bit+near))
		}
	}
}

// P13.3: each number of a host has its own place, whatever it is.
func TestTextHosts(t *testing.T) {
	some := []int{0, 1, 10, 255, 256, -1, -300, math.MaxInt, math.MinInt}
	for _, i := range some {
		for _, j := range some {
			for _, k := range some {
				for _, l := range some {
					written(t, at(i, j, k, l, 1286))
				}
			}
		}
	}
}

// P13.4: what is written is read again, each port, and within a reply too.
func TestWrittenIsRead(t *testing.T) {
	for port := 1; port <= 65535; port++ {
		want := at(port%256, port/256, 255-port%256, port%251, port)
		for _, form := range []string{"%s", "Entering Passive Mode (%s).", "=%s, or so 7"} {
			s := fmt.Sprintf(form, addr.Text(want))
			if a, ok := addr.Pasv(s); a != want || !ok {
				t.Fatalf("%q: %v, %v", s, a, ok)
			}
		}
		if a, ok := addr.Epsv(fmt.Sprintf("(|||%d|)", port)); a != at(0, 0, 0, 0, port) || !ok {
			t.Fatalf("%d: %v, %v", port, a, ok)
		}
	}
}

// P13.4: what is read is written as the same numbers, without noughts ahead.
func TestReadIsWritten(t *testing.T) {
	for _, s := range []string{"1,2,3,4,5,6", "0,0,0,0,0,1", "255,255,255,255,255,255", "10,0,0,1,4,0"} {
		for _, x := range []string{s, "x " + s, s + ",7"} {
			if a, ok := addr.Pasv(x); !ok || addr.Text(a) != s {
				t.Errorf("%q: %v, %v", x, a, ok)
			}
		}
	}
	if a, ok := addr.Pasv("001,02,3,000,05,006"); !ok || addr.Text(a) != "1,2,3,0,5,6" {
		t.Error(a, ok)
	}
	if a, ok := addr.Epsv("(|||01286|)"); !ok || addr.Text(a) != "0,0,0,0,5,6" {
		t.Error(a, ok)
	}
}

// P13.4: an address without a port, or with numbers that are too great, is written, and not read as one.
func TestWrittenIsNotRead(t *testing.T) {
	for _, a := range []api.Addr{{}, at(1, 2, 3, 4, 0), at(256, 2, 3, 4, 5), at(1, 2, 3, 1000, 5), at(1, -2, 3, 4, 5), at(1, 2, 3, 4, 65536), at(1, 2, 3, 4, -1), at(1, 2, 3, 4, math.MaxInt), at(1, 2, 3, 4, math.MinInt)} {
		if b, ok := pasv(t, written(t, a)); b != (api.Addr{}) || ok {
			t.Errorf("%v: %v, %v", a, b, ok)
		}
	}
}

// P13.1, P13.2: of the last line of a reply of layer 11.
func TestOfReplies(t *testing.T) {
	for s, want := range map[string]api.Addr{"227 at (10,0,0,1,4,1).": at(10, 0, 0, 1, 1025), "229 at (|||1025|)": at(0, 0, 0, 0, 1025), "229 at": {}} {
		r, whole, fault := reply.New(api.Ftp).Line(s, false)
		if !whole || fault != api.OK {
			t.Fatal(s, whole, fault)
		}
		read := addr.Epsv
		if r.Code == "227" {
			read = addr.Pasv
		}
		if a, ok := read(r.Lines[len(r.Lines)-1]); a != want || ok != (want.Port != 0) {
			t.Errorf("%q: %v, %v", s, a, ok)
		}
	}
}

// R5: a port alone has no host, and what is nothing has neither.
func TestNothingIsZero(t *testing.T) {
	for _, s := range []string{"(|||7|)", "10,0,0,1 (|||7|)", "(|||7|) 10,0,0,1,4,1"} {
		if a, ok := addr.Epsv(s); a.Host != [4]int{} || a.Port != 7 || !ok {
			t.Errorf("%q: %v, %v", s, a, ok)
		}
	}
	for _, s := range []string{"10,0,0,1,0,0", "10,0,0,1,4", "10,0,0,1,4,256", "10,0,0,1,4,1000"} {
		if a, ok := addr.Pasv(s); a != (api.Addr{}) || ok {
			t.Errorf("%q: %v, %v", s, a, ok)
		}
	}
}

// R6, R7: the same is answered again, whatever was asked between, and whatever is done to an answer; an address that is written is left as it is.
func TestAgain(t *testing.T) {
	given := at(10, 0, 0, 1, 1025)
	for range 3 {
		a, ok := addr.Pasv("(10,0,0,1,4,1)")
		if a != given || !ok {
			t.Fatal(a, ok)
		}
		a.Host[0], a.Port = 7, 7
		if b, ok := addr.Epsv("(|||9|)"); b != at(0, 0, 0, 0, 9) || !ok {
			t.Fatal(b, ok)
		}
		if s := addr.Text(given); s != "10,0,0,1,4,1" || given != at(10, 0, 0, 1, 1025) {
			t.Fatal(s, given)
		}
		addr.Pasv("none")
		addr.Epsv("none")
	}
}

// R1: very long texts end, at once.
func TestGreat(t *testing.T) {
	const n = 1 << 22
	for _, c := range []string{"0", "9", ",", "(", ")", "|", "a", " ", "\xff", "1,", "(|", "(|||7|"} {
		long := strings.Repeat(c, n)
		for _, s := range []string{long, "1,2,3,4,5," + long, "(|||" + long, "(|||" + long + "|)", "(" + long + "7|)", "1,2,3,4,5,6" + long} {
			if a, ok := addr.Pasv(s); !ok && a != (api.Addr{}) {
				t.Error(c, a)
			}
			if a, ok := addr.Epsv(s); !ok && a != (api.Addr{}) {
				t.Error(c, a)
			}
		}
	}
	ahead := strings.Repeat("a|", n)
	if a, ok := addr.Pasv(ahead + "1,2,3,4,5,6"); a != at(1, 2, 3, 4, 1286) || !ok {
		t.Error(a, ok)
	}
	if a, ok := addr.Epsv(ahead + "(|||7|)"); a != at(0, 0, 0, 0, 7) || !ok {
		t.Error(a, ok)
	}
}
