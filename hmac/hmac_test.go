package hmac_test

import (
	"bytes"
	stdhmac "crypto/hmac"
	"crypto/md5"
	"encoding/hex"
	"strings"
	"testing"

	"rejoinder/digest"
	"rejoinder/hmac"
)

// mixed is k bytes with no short rule to them.
func mixed(k, seed int) []byte {
	b := make([]byte, k)
	x := uint32(seed)*2654435761 + 1
	for i := range b {
		x = x*1664525 + 1013904223
		b[i] = byte(x >> 24)
	}
	return b
}

// byWords is P4.1 said word for word.
func byWords(key, b []byte) [16]byte {
	row := bytes.Clone(key)
	if len(row) > 64 {
		sum := digest.Sum(row)
		row = sum[:]
	}
	for len(row) < 64 {
		row = append(row, 0)
	}
	var in, out []byte
	for _, c := range row {
		in = append(in, c^54)
		out = append(out, c^92)
	}
	inner := digest.Sum(append(in, b...))
	return digest.Sum(append(out, inner[:]...))
}

// byLibrary is what the library of Go says.
func byLibrary(key, b []byte) [16]byte {
	mac := stdhmac.New(md5.New, key)
	mac.Write(b)
	return [16]byte(mac.Sum(nil))
}

// holds asks Sum and Hex of a key and bytes, against the chapter's words and the library.
func holds(t *testing.T, key, b []byte) {
	t.Helper()
	got := hmac.Sum(key, b)
	if want := byWords(key, b); got != want {
		t.Errorf("Sum of a key of %d bytes and %d bytes is %x, by the words %x", len(key), len(b), got, want)
	}
	if want := byLibrary(key, b); got != want {
		t.Errorf("Sum of a key of %d bytes and %d bytes is %x, want %x", len(key), len(b), got, want)
	}
	if s := hmac.Hex(key, b); s != hex.EncodeToString(got[:]) {
		t.Errorf("Hex of a key of %d bytes and %d bytes is %q, its sum is %x", len(key), len(b), s, got)
	}
}

// P4.1, P4.2: the examples of RFC 2202, of RFC 2195, of the chapter, and with neither key nor bytes.
func TestExamples(t *testing.T) {
	const long = "Test Using Larger Than Block-Size Key"
	counted := make([]byte, 25)
	for i := range counted {
		counted[i] = byte(i + 1)
	}
	for _, x := range []struct{ key, bytes, sum string }{
		{strings.Repeat("\x0b", 16), "Hi There", "9294727a3638bb1c13f48ef8158bfc9d"},
		{"Jefe", "what do ya want for nothing?", "750c783e6ab0b503eaa86e310a5db738"},
		{strings.Repeat("\xaa", 16), strings.Repeat("\xdd", 50), "56be34521d144c88dbb8c733f0e8b3f6"},
		{string(counted), strings.Repeat("\xcd", 50), "697eaf0aca3a3aea3a75164746ffaa79"},
		{strings.Repeat("\x0c", 16), "Test With Truncation", "56461ef2342edc00f9bab995690efd4c"},
		{strings.Repeat("\xaa", 80), long + " - Hash Key First", "6b1ab7fe4bd7bf8f0b62e6ce61b9d0cd"},
		{strings.Repeat("\xaa", 80), long + " and Larger Than One Block-Size Data", "6f630fad67cda0ee1fb1f562db3aa53e"},
		{"tanstaaftanstaaf", "<1896.697170952@postoffice.reston.mci.net>", "b913a602c7eda7a495b4e6e7334d3890"},
		{"", "", "74e6f7298a9c2d168935f58c001bad88"},
	} {
		if s := hmac.Hex([]byte(x.key), []byte(x.bytes)); s != x.sum {
			t.Errorf("Hex(%q, %q) = %s, want %s", x.key, x.bytes, s, x.sum)
		}
		sum := hmac.Sum([]byte(x.key), []byte(x.bytes))
		if s := hex.EncodeToString(sum[:]); s != x.sum {
			t.Errorf("Sum(%q, %q) = %s, want %s", x.key, x.bytes, s, x.sum)
		}
		holds(t, []byte(x.key), []byte(x.bytes))
	}
}

// P4.1, R1: no key is a key of no bytes, and so are no bytes.
func TestNone(t *testing.T) {
	const none = "74e6f7298a9c2d168935f58c001bad88"
	for _, key := range [][]byte{nil, {}} {
		for _, b := range [][]byte{nil, {}} {
			if s := hmac.Hex(key, b); s != none {
				t.Errorf("Hex(%v, %v) = %s, want %s", key, b, s, none)
			}
		}
	}
	for _, k := range []int{1, 16, 63, 64, 65, 200} {
		holds(t, mixed(k, k), nil)
		holds(t, nil, mixed(k, k))
	}
}

// P4.1: keys of all lengths around one block and two, and bytes of lengths around the ends of blocks: a key of 64 bytes is taken as it is, one of 65 is not.
func TestEachLength(t *testing.T) {
	lengths := []int{0, 1, 15, 16, 17, 55, 56, 57, 63, 64, 65, 119, 120, 128, 129, 1000}
	for k := range 200 {
		for _, n := range lengths {
			holds(t, mixed(k, k), mixed(n, n+7))
		}
		holds(t, bytes.Repeat([]byte{255}, k), mixed(k, 3))
		holds(t, bytes.Repeat([]byte{0x36}, k), make([]byte, k))
		holds(t, bytes.Repeat([]byte{0x5c}, k), mixed(300-k, 5))
	}
	holds(t, mixed(1<<20+1, 1), mixed(1<<20+3, 2))
}

// P4.1: just the keys of more than 64 bytes have the sum of their own sum.
func TestLongKeyIsItsSum(t *testing.T) {
	b := []byte("of these")
	for k := range 300 {
		key := mixed(k, k+1)
		short := digest.Sum(key)
		if same := hmac.Sum(key, b) == hmac.Sum(short[:], b); same != (k > 64) {
			t.Errorf("a key of %d bytes: as its sum is %v", k, same)
		}
	}
}

// P4.1: each byte of a key and of what is told matters, and so does where the one ends.
func TestEachByteMatters(t *testing.T) {
	for _, k := range []int{1, 16, 63, 64, 65, 130} {
		key, b := mixed(k, 1), mixed(k, 2)
		seen := map[[16]byte]bool{hmac.Sum(key, b): true}
		for _, row := range [][]byte{key, b} {
			for bit := range 8 * k {
				row[bit/8] ^= 1 << (bit % 8)
				holds(t, key, b)
				seen[hmac.Sum(key, b)] = true
				row[bit/8] ^= 1 << (bit % 8)
			}
		}
		if len(seen) != 16*k+1 {
			t.Errorf("%d bytes each: %d sums, want %d", k, len(seen), 16*k+1)
		}
		seen = map[[16]byte]bool{}
		all := mixed(k, 3)
		for end := range k + 1 {
			seen[hmac.Sum(all[:end], all[end:])] = true
		}
		if len(seen) != k+1 {
			t.Errorf("%d bytes, cut anywhere: %d sums", k, len(seen))
		}
	}
}

// P4.3: noughts behind a key of less than 64 bytes, up to 64; one more makes another key of it.
func TestNoughtsBehindAKey(t *testing.T) {
	for k := range 64 {
		key, b := mixed(k, k), mixed(3*k, 1)
		want := hmac.Sum(key, b)
		padded := bytes.Clone(key)
		for len(padded) < 64 {
			padded = append(padded, 0)
			if got := hmac.Sum(padded, b); got != want {
				t.Errorf("a key of %d bytes with noughts up to %d: %x, want %x", k, len(padded), got, want)
			}
			if s := hmac.Hex(padded, b); s != hex.EncodeToString(want[:]) {
				t.Errorf("a key of %d bytes with noughts up to %d: %s, want %x", k, len(padded), s, want)
			}
		}
		padded = append(padded, 0)
		if hmac.Sum(padded, b) == want {
			t.Errorf("a key of %d bytes is as with noughts up to 65", k)
		}
		holds(t, padded, b)
	}
}

// P4.3: noughts ahead of a key, and behind the bytes, matter.
func TestNoughtsElsewhere(t *testing.T) {
	key, b := []byte("Jefe"), []byte("what do ya want for nothing?")
	want := hmac.Sum(key, b)
	if hmac.Sum(append([]byte{0}, key...), b) == want {
		t.Error("a nought ahead of a key does not matter")
	}
	if hmac.Sum(key, append(bytes.Clone(b), 0)) == want {
		t.Error("a nought behind the bytes does not matter")
	}
	if hmac.Sum(key, append([]byte{0}, b...)) == want {
		t.Error("a nought ahead of the bytes does not matter")
	}
}

// R6, R7: neither key nor bytes nor the room behind them are changed, and the room does not matter, even where the one stands in the room of the other.
func TestLeavesItsArguments(t *testing.T) {
	for k := 0; k < 150; k += 3 {
		for _, at := range []int{0, k / 2, k} {
			room := mixed(400, k)
			was := bytes.Clone(room)
			key, b := room[:k], room[at:at+k]
			want := byLibrary(was[:k], was[at:at+k])
			if got := hmac.Sum(key, b); got != want {
				t.Errorf("%d bytes, from %d on: %x, want %x", k, at, got, want)
			}
			if got := hmac.Sum(b, key); got != byLibrary(was[at:at+k], was[:k]) {
				t.Errorf("%d bytes, from %d on, turned round: %x", k, at, got)
			}
			if s := hmac.Hex(key, b); s != hex.EncodeToString(want[:]) {
				t.Errorf("%d bytes, from %d on: %s, want %x", k, at, s, want)
			}
			if !bytes.Equal(room, was) {
				t.Fatalf("%d bytes, from %d on: the room is changed", k, at)
			}
			for i := at + k; i < len(room); i++ {
				room[i] ^= 255
			}
			if again := hmac.Sum(key, b); again != want {
				t.Errorf("%d bytes, from %d on: %x, and again %x", k, at, want, again)
			}
		}
	}
}
