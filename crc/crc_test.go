package crc

import (
	"bytes"
	"hash/crc32"
	"testing"
)

func TestKnown(t *testing.T) {
	if Of([]byte("123456789")) != 0xcbf43926 || Of(nil) != 0 {
		t.Error(Of([]byte("123456789")))
	}
	for n := range 300 {
		b := bytes.Repeat([]byte{byte(n), 7, byte(n * 3)}, n)
		if Of(b) != crc32.ChecksumIEEE(b) {
			t.Fatal(n)
		}
	}
}

func TestMore(t *testing.T) {
	b := []byte("the log of all schedulers")
	for i := range len(b) + 1 {
		if More(Of(b[:i]), b[i:]) != Of(b) {
			t.Error(i)
		}
	}
	if More(0x12345678, nil) != 0x12345678 || More(0xffffffff, []byte{0}) != 0xffffffff {
		t.Error("more of a given sum", More(0xffffffff, []byte{0}))
	}
	if More(99, []byte("ab")) != crc32.Update(99, crc32.IEEETable, []byte("ab")) {
		t.Error("update")
	}
}

func TestSeal(t *testing.T) {
	if got := Seal([]byte("123456789")); string(got) != "123456789\x26\x39\xf4\xcb" {
		t.Errorf("%q", got)
	}
	if got := Seal(nil); string(got) != "\x00\x00\x00\x00" {
		t.Errorf("%q", got)
	}
	b := []byte("abcdefgh")
	s := Seal(b[:1])
	s[0] = 'x'
	if string(b) != "abcdefgh" {
		t.Error("argument changed")
	}
}

func TestOpen(t *testing.T) {
	for _, s := range []string{"", "a", "123456789"} {
		sealed := Seal([]byte(s))
		got, ok := Open(sealed)
		if !ok || string(got) != s {
			t.Errorf("%q", s)
		}
		if ok && len(got) > 0 {
			got[0]++
			if sealed[0] != s[0] {
				t.Error("shares memory")
			}
		}
	}
	for _, b := range [][]byte{nil, {0}, {0, 0, 0}, {1, 2, 3, 4}, []byte("123456789\x26\x39\xf4\xcc")} {
		if got, ok := Open(b); ok || got != nil {
			t.Error(b)
		}
	}
}

func TestBursts(t *testing.T) {
	b := Seal([]byte("payload"))
	for at := range 8 * len(b) {
		for _, burst := range []uint32{1, 3, 0x80000001, 0xffffffff, 0xdeadbeef, 0x00010001} {
			c := append([]byte(nil), b...)
			flipped := false
			for j := range 32 {
				if burst>>j&1 == 1 && at+j < 8*len(c) {
					c[(at+j)/8] ^= 1 << ((at + j) % 8)
					flipped = true
				}
			}
			if _, ok := Open(c); ok && flipped {
				t.Fatal(at, burst)
			}
		}
	}
}
