package b64_test

import (
	"bytes"
	"encoding/base64"
	"strings"
	"testing"

	"rejoinder/b64"
)

// letter is P2.1 said of one number of 0 to 63.
func letter(n int) byte {
	switch {
	case n < 26:
		return byte('A' + n)
	case n < 52:
		return byte('a' + n - 26)
	case n < 62:
		return byte('0' + n - 52)
	case n == 62:
		return '+'
	}
	return '/'
}

// lettersByBits is P2.1 said with the bits one by one, six of them a letter.
func lettersByBits(b []byte) string {
	var bits []int
	for _, c := range b {
		for k := 7; k >= 0; k-- {
			bits = append(bits, int(c)>>k&1)
		}
	}
	for len(bits)%6 != 0 {
		bits = append(bits, 0)
	}
	var out []byte
	for ; len(bits) > 0; bits = bits[6:] {
		n := 0
		for _, bit := range bits[:6] {
			n = n*2 + bit
		}
		out = append(out, letter(n))
	}
	for len(out)%4 != 0 {
		out = append(out, '=')
	}
	return string(out)
}

// mixed is k bytes with no short rule to them.
func mixed(k, seed int) []byte {
	b := make([]byte, k)
	x := uint32(seed)*2654435761 + 1
	for i := range b {
		x = x*1664525 + 1013904223
		b[i] = byte(x >> 24)
	}
	return b
}

// bothWays holds Put of b against the letters that are asked, and Take of them against b.
func bothWays(t *testing.T, b []byte, s string) {
	t.Helper()
	if got := b64.Put(b); got != s {
		t.Fatalf("Put(%v) = %q, want %q", b, got, s)
	}
	if got, ok := b64.Take(s); !ok || !bytes.Equal(got, b) {
		t.Fatalf("Take(%q) = %v, %v, want %v, true", s, got, ok, b)
	}
}

// noBytes asks that nothing has s as its letters.
func noBytes(t *testing.T, s string) {
	t.Helper()
	if b, ok := b64.Take(s); b != nil || ok {
		t.Errorf("Take(%q) = %v, %v, want none, false", s, b, ok)
	}
}

// P2.1, P2.2: by examples, each count of bytes that are left among them.
func TestExamples(t *testing.T) {
	for _, x := range []struct{ bytes, letters string }{
		{"", ""},
		{"\x00\x10\x83", "ABCD"},
		{"f", "Zg=="},
		{"fo", "Zm8="},
		{"foo", "Zm9v"},
		{"foob", "Zm9vYg=="},
		{"fooba", "Zm9vYmE="},
		{"foobar", "Zm9vYmFy"},
		{"\x00", "AA=="},
		{"\x00\x00", "AAA="},
		{"\x00\x00\x00", "AAAA"},
		{"\x00\x00\x00\x00", "AAAAAA=="},
		{"\xff", "/w=="},
		{"\xff\xff", "//8="},
		{"\xff\xff\xff", "////"},
		{"\xfb", "+w=="},
		{"\xff\xfe\xfd", "//79"},
		{"\xfb\xef\xbe", "++++"},
		{"\x00user\x00pass", "AHVzZXIAcGFzcw=="},
		{"\xe2\x82\xac", "4oKs"},
	} {
		bothWays(t, []byte(x.bytes), x.letters)
	}
}

// P2.1: the letter of each number, in each of the four parts.
func TestEachLetterInEachPart(t *testing.T) {
	for n := range 64 {
		for part := range 4 {
			row := n << (18 - 6*part)
			want := []byte("AAAA")
			want[part] = letter(n)
			bothWays(t, []byte{byte(row >> 16), byte(row >> 8), byte(row)}, string(want))
		}
	}
}

// P2.1, P2.2: all rows of one byte and of two, and many of three.
func TestShortRows(t *testing.T) {
	for a := range 256 {
		bothWays(t, []byte{byte(a)}, lettersByBits([]byte{byte(a)}))
		for b := range 256 {
			bothWays(t, []byte{byte(a), byte(b)}, lettersByBits([]byte{byte(a), byte(b)}))
		}
	}
	for n := 0; n < 1<<24; n += 251 {
		three := []byte{byte(n >> 16), byte(n >> 8), byte(n)}
		bothWays(t, three, lettersByBits(three))
	}
}

// P2.1, P2.2: rows of all lengths, the long ones too.
func TestLongRows(t *testing.T) {
	for k := range 300 {
		b := mixed(k, k)
		bothWays(t, b, lettersByBits(b))
	}
	for k := 1 << 16; k < 1<<16+6; k++ {
		b := mixed(k, k)
		bothWays(t, b, base64.StdEncoding.EncodeToString(b))
	}
	if s := b64.Put(nil); s != "" {
		t.Errorf("Put(nil) = %q", s)
	}
}

// P2.2: texts that are the letters of no bytes.
func TestNoLetters(t *testing.T) {
	for _, s := range []string{
		"Z", "Zg", "Zg=", "Zm8", "Zm9vY", "Zm9vYg", "Zm9vYg=", // too short
		"=", "==", "===", "====", "Z===", "=Zg=", "==Zg", "=Zm9", // fillers ahead, or too many
		"Z=g=", "Z=gg", "Zg=g", "Zg=A", "Zm=v", "Z==g", // letters behind fillers
		"Zg===", "Zm8==", "Zm9v=", "Zm9v==", "Zm9v===", "Zm9v====", "Zm9v=AAA", // fillers behind what is whole
		"Zg==Zg==", "Zm8=Zm8=", "Zg==Zm9v", "Zm8=Zm9v", "Zg==A", "Zg==\n", // more behind the end
		"Zh==", "Zv==", "Z/==", "Zm9=", "Zm+=", "Zm9vYh==", "Zm9vYmF=", // bits behind that are not noughts
		" Zg==", "Zg== ", "Zm 8", "Z g==", "Zm9v\n", "Zm9v\r\n", "Zm9v\r\nZm9v", "\n", "\r\n", "    ", "Zm9v\n\n\n\n", // blanks and ends of lines
		"-_==", "-w==", "_w==", "++-+", "//_/", "Zm9.", "*AAA", "Zm9,", // letters of other rows
		"\x00AAA", "AAA\x00", "AA\xff\xff", "\xc3\xa9AA", "AA\u20ac", "\u0130AA", "\uff21A", "AAAA\x80", "AA=\x80", "A\x3d\x3e=",
	} {
		noBytes(t, s)
	}
}

// P2.2: each byte in each place of four, with whole ones and with such that are filled up.
func TestEachByteInEachPlace(t *testing.T) {
	for c := range 256 {
		for place := range 4 {
			for _, around := range []string{"Zm9v", "Zm8=", "Zg==", "AAAA", "AAA=", "AA==", "////"} {
				four := []byte(around)
				four[place] = byte(c)
				for _, ahead := range []string{"", "Zm9v"} {
					asBefore(t, ahead+string(four))
				}
			}
		}
	}
}

// asBefore holds Take against the library's strict one. That one passes over ends of lines, of which Put writes none.
func asBefore(t *testing.T, s string) {
	t.Helper()
	want, err := base64.StdEncoding.Strict().DecodeString(s)
	if err != nil || strings.ContainsAny(s, "\r\n") {
		noBytes(t, s)
		return
	}
	bothWays(t, want, s)
}

// P2.2, P2.3: all texts of up to five of some bytes, and all of eight of fewer.
func TestAllShortTexts(t *testing.T) {
	for _, x := range []struct {
		bytes string
		most  int
	}{{"AQgwh/+9=\n-\xff", 5}, {"Ag=", 9}} {
		texts := []string{""}
		for k := 0; k < len(texts); k++ {
			asBefore(t, texts[k])
			if len(texts[k]) == x.most {
				continue
			}
			for i := range len(x.bytes) {
				texts = append(texts, texts[k]+x.bytes[i:i+1])
			}
		}
	}
}

// P2.3: what is taken has the very text as its letters; of sixteen second letters that differ in the bits behind alone one is taken, of four third letters too.
func TestOneTextForOneRow(t *testing.T) {
	for a := range 64 {
		taken := 0
		for b := range 64 {
			s := string([]byte{letter(a), letter(b), '=', '='})
			if got, ok := b64.Take(s); ok {
				taken++
				bothWays(t, got, s)
			}
			kept := 0
			for c := range 64 {
				s := string([]byte{letter(a), letter(b), letter(c), '='})
				if got, ok := b64.Take(s); ok {
					kept++
					bothWays(t, got, s)
				}
			}
			if kept != 16 {
				t.Errorf("of %q with a third letter %d are taken", s[:2], kept)
			}
		}
		if taken != 4 {
			t.Errorf("of %q with a second letter %d are taken", letter(a), taken)
		}
	}
}

// R2, P2.2: what is wrong at the end leaves nothing of what was right ahead of it.
func TestWrongAtTheEnd(t *testing.T) {
	right := b64.Put(mixed(3000, 7))
	for _, end := range []string{"A", "AA", "AAA", "AB==", "AAB=", "====", "A===", "AA=A", "\n", "AA==\n", "AA==AAAA"} {
		noBytes(t, right+end)
		noBytes(t, end+right)
	}
	if b, ok := b64.Take(right + "AA=="); len(b) != 3001 || !ok {
		t.Error(len(b), ok)
	}
}

// R7: neither the bytes nor the room behind them are changed, and what is answered is the caller's own.
func TestOnesOwn(t *testing.T) {
	for k := range 8 {
		room := mixed(12, k)
		was := bytes.Clone(room)
		s := b64.Put(room[:k])
		if !bytes.Equal(room, was) {
			t.Errorf("%d bytes: the room is %v, was %v", k, room, was)
		}
		a, _ := b64.Take(s)
		b, _ := b64.Take(s)
		for i := range a[:cap(a)] {
			a[:cap(a)][i] ^= 255
		}
		if !bytes.Equal(b, was[:k]) || s != lettersByBits(was[:k]) {
			t.Errorf("%d bytes: %v, %q", k, b, s)
		}
	}
}
