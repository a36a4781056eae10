package digest_test

import (
	"bytes"
	"crypto/md5"
	"encoding/hex"
	"math"
	"strings"
	"testing"

	"rejoinder/digest"
)

// mixed is k bytes with no short rule to them.
func mixed(k, seed int) []byte {
	b := make([]byte, k)
	x := uint32(seed)*2654435761 + 1
	for i := range b {
		x = x*1664525 + 1013904223
		b[i] = byte(x >> 24)
	}
	return b
}

// turnLeft turns a word by s bits.
func turnLeft(x uint32, s int) uint32 { return x<<s | x>>(32-s) }

// sumByWords is P3.1 said word for word, with the sines reckoned, and a copy of all bytes.
func sumByWords(b []byte) [16]byte {
	row := append(bytes.Clone(b), 128)
	for len(row)%64 != 56 {
		row = append(row, 0)
	}
	for count, i := uint64(len(b))*8, 0; i < 8; i++ {
		row = append(row, byte(count))
		count /= 256
	}
	shifts := [4][4]int{{7, 12, 17, 22}, {5, 9, 14, 20}, {4, 11, 16, 23}, {6, 10, 15, 21}}
	A, B, C, D := uint32(0x67452301), uint32(0xEFCDAB89), uint32(0x98BADCFE), uint32(0x10325476)
	for ; len(row) > 0; row = row[64:] {
		var M [16]uint32
		for i := range M {
			for k := 3; k >= 0; k-- {
				M[i] = M[i]*256 + uint32(row[4*i+k])
			}
		}
		a, b, c, d := A, B, C, D
		for i := range 64 {
			var f uint32
			var g int
			switch i / 16 {
			case 0:
				f, g = (b&c)|(^b&d), i
			case 1:
				f, g = (d&b)|(^d&c), 5*i+1
			case 2:
				f, g = b^c^d, 3*i+5
			case 3:
				f, g = c^(b|^d), 7*i
			}
			K := uint32(math.Floor(math.Abs(math.Sin(float64(i+1))) * 4294967296))
			t := turnLeft(a+f+K+M[g%16], shifts[i/16][i%4])
			a, d, c, b = d, c, b, b+t
		}
		A, B, C, D = A+a, B+b, C+c, D+d
	}
	var sum [16]byte
	for i, word := range []uint32{A, B, C, D} {
		for k := range 4 {
			sum[4*i+k] = byte(word)
			word /= 256
		}
	}
	return sum
}

// sumIs asks for the letters of a sum.
func sumIs(t *testing.T, b []byte, want string) {
	t.Helper()
	sum := digest.Sum(b)
	if got := hex.EncodeToString(sum[:]); got != want {
		t.Errorf("Sum of %d bytes is %s, want %s", len(b), got, want)
	}
}

// P3.1: the examples of RFC 1321, and one byte each of the least and the greatest.
func TestSumExamples(t *testing.T) {
	for _, x := range []struct{ bytes, sum string }{
		{"", "d41d8cd98f00b204e9800998ecf8427e"},
		{"a", "0cc175b9c0f1b6a831c399e269772661"},
		{"abc", "900150983cd24fb0d6963f7d28e17f72"},
		{"message digest", "f96b697d7cb7938d525a2f31aaf161d0"},
		{"abcdefghijklmnopqrstuvwxyz", "c3fcd3d76192e4007dfb496cca67e13b"},
		{"ABCDEFGHIJKLMNOPQRSTUVWXYZabcdefghijklmnopqrstuvwxyz0123456789", "d174ab98d277d9f5a5611c2c9f419d9f"},
		{strings.Repeat("1234567890", 8), "57edf4a22be3c955ac49da2e2107b67a"},
		{"\x00", "93b885adfe0da089cdf634904fd59f71"},
		{"\xff", "00594fd4f42ba43fc1ca0427a0576295"},
		{"The quick brown fox jumps over the lazy dog", "9e107d9d372bb6826bd81d3542a419d6"},
		{"<1896.697170952@dbc.mtview.ca.us>tanstaaf", "c4c9334bac560ecc979e58001b3e22fb"},
	} {
		sumIs(t, []byte(x.bytes), x.sum)
	}
	sumIs(t, nil, "d41d8cd98f00b204e9800998ecf8427e")
}

// P3.1: all lengths around the ends of blocks: at 55 bytes the count fits into the block, at 56 it does not, at 64 nothing is left.
func TestSumEachLength(t *testing.T) {
	for k := range 600 {
		for _, b := range [][]byte{mixed(k, k), make([]byte, k), bytes.Repeat([]byte{255}, k), bytes.Repeat([]byte{128}, k)} {
			got := digest.Sum(b)
			if want := md5.Sum(b); got != want {
				t.Errorf("Sum of %d bytes is %x, want %x", k, got, want)
			}
			if want := sumByWords(b); got != want {
				t.Errorf("Sum of %d bytes is %x, by the words %x", k, got, want)
			}
		}
	}
}

// P3.1: many blocks, and each bit of one, of which each changes the sum.
func TestSumEachBit(t *testing.T) {
	for k := 1 << 16; k < 1<<16+130; k += 13 {
		b := mixed(k, k)
		if got, want := digest.Sum(b), md5.Sum(b); got != want {
			t.Errorf("Sum of %d bytes is %x, want %x", k, got, want)
		}
	}
	b := mixed(64, 3)
	seen := map[[16]byte]int{digest.Sum(b): -1}
	for bit := range 512 {
		b[bit/8] ^= 1 << (bit % 8)
		got := digest.Sum(b)
		if want := md5.Sum(b); got != want {
			t.Errorf("bit %d: %x, want %x", bit, got, want)
		}
		if other, ok := seen[got]; ok {
			t.Errorf("bits %d and %d have one sum", bit, other)
		}
		seen[got] = bit
		b[bit/8] ^= 1 << (bit % 8)
	}
}

// P3.1: the count of bits has more than 32 bits.
func TestSumOfMoreBitsThanAWord(t *testing.T) {
	if testing.Short() {
		t.Skip("it takes some seconds")
	}
	sumIs(t, make([]byte, 1<<29), "aa559b4e3523a6c931f08f4df52d58f2")
}

// R6, R7: neither the bytes nor the room behind them are changed, nor do they matter.
func TestSumLeavesItsBytes(t *testing.T) {
	for k := range 200 {
		room := mixed(330, k)
		was := bytes.Clone(room)
		first := digest.Sum(room[:k])
		if !bytes.Equal(room, was) {
			t.Fatalf("%d bytes: the room is changed", k)
		}
		for i := k; i < len(room); i++ {
			room[i] ^= 255
		}
		if again := digest.Sum(room[:k]); again != first || first != md5.Sum(was[:k]) {
			t.Errorf("%d bytes: %x, and again %x", k, first, again)
		}
	}
}

// noBytes asks that nothing has s as its Hex.
func noBytes(t *testing.T, s string) {
	t.Helper()
	if b, ok := digest.Unhex(s); b != nil || ok {
		t.Errorf("Unhex(%q) = %v, %v, want none, false", s, b, ok)
	}
}

// bothWays holds Hex of b against the digits that are asked, and Unhex of them against b.
func bothWays(t *testing.T, b []byte, s string) {
	t.Helper()
	if got := digest.Hex(b); got != s {
		t.Errorf("Hex(%v) = %q, want %q", b, got, s)
	}
	if got, ok := digest.Unhex(s); !ok || !bytes.Equal(got, b) {
		t.Errorf("Unhex(%q) = %v, %v, want %v, true", s, got, ok, b)
	}
}

// P3.2: by examples, with no bytes, each digit, and digits of the same byte that differ.
func TestHexExamples(t *testing.T) {
	for _, x := range []struct{ bytes, digits string }{
		{"", ""},
		{"\x00", "00"},
		{"\x00\xff\x7a", "00ff7a"},
		{"\x01\x23\x45\x67\x89\xab\xcd\xef", "0123456789abcdef"},
		{"\xfe\xdc\xba\x98\x76\x54\x32\x10", "fedcba9876543210"},
		{"\n\r", "0a0d"},
		{"az", "617a"},
		{"\xe2\x82\xac", "e282ac"},
	} {
		bothWays(t, []byte(x.bytes), x.digits)
	}
	if s := digest.Hex(nil); s != "" {
		t.Errorf("Hex(nil) = %q", s)
	}
}

// P3.2, P3.3: each byte, behind and ahead of each other one.
func TestHexEachByte(t *testing.T) {
	for a := range 256 {
		bothWays(t, []byte{byte(a)}, hex.EncodeToString([]byte{byte(a)}))
		for b := range 256 {
			two := []byte{byte(a), byte(b)}
			bothWays(t, two, hex.EncodeToString(two))
		}
	}
}

// P3.2: all texts of two bytes: there are bytes for 256 of them alone.
func TestUnhexEachPair(t *testing.T) {
	const digits = "0123456789abcdef"
	taken := 0
	for a := range 256 {
		for b := range 256 {
			s := string([]byte{byte(a), byte(b)})
			high, low := strings.IndexByte(digits, byte(a)), strings.IndexByte(digits, byte(b))
			if high < 0 || low < 0 {
				noBytes(t, s)
				continue
			}
			taken++
			bothWays(t, []byte{byte(high*16 + low)}, s)
		}
	}
	if taken != 256 {
		t.Errorf("%d texts are taken", taken)
	}
}

// P3.2, R2: texts that are the digits of no bytes; what is wrong at the end leaves nothing of what was right ahead of it.
func TestNoDigits(t *testing.T) {
	for _, s := range []string{
		"0", "000", "00f", "abcde", // half a byte
		"0A", "A0", "FF", "aF", "Fa", "00FF", "DEADBEEF", // capitals
		"0g", "g0", "zz", "/0", "0:", "0`", "@0", "0G", // next to digits
		" 00", "00 ", "0 0", " 0 0", "  ", "00 00", "00\n", "00\r\n", "\n\n", "\t0", // blanks and ends of lines
		"0x", "0x00", "x0", "\\x00", "-1", "+1", "-001", "1.", "0_", "00:00", "00,0", // other ways to write
		"\x00\x00", "0\x00", "\x000", "\xff\xff", "\u0661", "\uff11a", "\u00e9", "\u0430", "a\xcc", // other bytes
	} {
		noBytes(t, s)
	}
	right := digest.Hex(mixed(3000, 7))
	for _, wrong := range []string{"0", "0A", "g0", "0g", "\n", " 0", "=="} {
		noBytes(t, right+wrong)
		noBytes(t, wrong+right)
		noBytes(t, right+wrong+right)
	}
}

// P3.3: rows of all lengths, the long ones too; and what was read is written again.
func TestWrittenIsRead(t *testing.T) {
	for k := range 300 {
		b := mixed(k, k)
		bothWays(t, b, hex.EncodeToString(b))
		sum := digest.Sum(b)
		bothWays(t, sum[:], hex.EncodeToString(sum[:]))
	}
	long := mixed(1<<20+1, 5)
	if got, ok := digest.Unhex(digest.Hex(long)); !ok || !bytes.Equal(got, long) {
		t.Error("a long row", len(got), ok)
	}
	const some = "09afA g"
	texts := []string{""}
	for k := 0; k < len(texts); k++ {
		if b, ok := digest.Unhex(texts[k]); ok && digest.Hex(b) != texts[k] {
			t.Errorf("Unhex(%q) = %v", texts[k], b)
		} else if want := len(texts[k])%2 == 0 && !strings.ContainsAny(texts[k], "A g"); ok != want {
			t.Errorf("Unhex(%q) = %v, %v", texts[k], b, ok)
		}
		for i := 0; i < len(some) && len(texts[k]) < 4; i++ {
			texts = append(texts, texts[k]+some[i:i+1])
		}
	}
}

// R7: neither the bytes nor the room behind them are changed, and what is answered is the caller's own.
func TestOnesOwn(t *testing.T) {
	for k := range 8 {
		room := mixed(20, k)
		was := bytes.Clone(room)
		s := digest.Hex(room[:k])
		if !bytes.Equal(room, was) {
			t.Errorf("%d bytes: the room is %v, was %v", k, room, was)
		}
		for i := range room {
			room[i] = 0
		}
		a, _ := digest.Unhex(s)
		b, _ := digest.Unhex(s)
		for i := range a[:cap(a)] {
			a[:cap(a)][i] ^= 255
		}
		if !bytes.Equal(b, was[:k]) || s != hex.EncodeToString(was[:k]) {
			t.Errorf("%d bytes: %v, %q", k, b, s)
		}
	}
}
