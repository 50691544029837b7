package glyph

import (
	"slices"
	"strings"
	"testing"
	"unicode/utf8"
)

var samples = []string{"", "a", "größe", "a\xffb", "\xff\xfe", "\xed\xa0\x80", "\xc0\x80", "\xf4\x90\x80\x80", "\U0010ffff",
	"�", "a�b", "\xe2\x82", "日本", "\x00\x7f", "\xf0\x9f\x98\x80x"}

func collect(s string) (offsets []int, runes []rune) {
	for at, c := range Each(s) {
		offsets = append(offsets, at)
		runes = append(runes, c)
	}
	return offsets, runes
}

func TestEach(t *testing.T) {
	offsets, runes := collect("gr\xf6ße\xff")
	if !slices.Equal(offsets, []int{0, 1, 2, 3, 5, 6}) || !slices.Equal(runes, []rune{'g', 'r', 65533, 'ß', 'e', 65533}) {
		t.Error(offsets, runes)
	}
	// A surrogate, an overlong form and a number that is too great are bytes of their own.
	for _, s := range []string{"\xed\xa0\x80", "\xe0\x80\xaf", "\xf4\x90\x80\x80", "\xc1\xbf"} {
		offsets, runes := collect(s)
		if len(offsets) != len(s) {
			t.Errorf("%q %v", s, offsets)
		}
		for i, c := range runes {
			if c != 65533 || offsets[i] != i {
				t.Errorf("%q", s)
			}
		}
	}
}

func TestEachStopsAndRepeats(t *testing.T) {
	seq := Each("abc")
	n := 0
	for range seq {
		n++
		break
	}
	for range seq {
		n++
	}
	if n != 4 {
		t.Error(n)
	}
}

func TestCountAndAt(t *testing.T) {
	for _, s := range samples {
		offsets, runes := collect(s)
		if Count(s) != len(runes) || Count(s) != utf8.RuneCountInString(s) {
			t.Errorf("%q", s)
		}
		for k := range runes {
			if c, at := At(s, k); c != runes[k] || at != offsets[k] {
				t.Errorf("%q %d", s, k)
			}
			if k > 0 && offsets[k] <= offsets[k-1] || k == 0 && offsets[0] != 0 {
				t.Errorf("offsets of %q", s)
			}
		}
		for _, k := range []int{-1, -1 << 63, len(runes), 1<<63 - 1} {
			if c, at := At(s, k); c != 0 || at != -1 {
				t.Errorf("%q %d", s, k)
			}
		}
	}
	if Count("größe") != 5 {
		t.Error("größe")
	}
}

func TestWhole(t *testing.T) {
	for _, s := range samples {
		if Whole(s) != utf8.ValidString(s) {
			t.Errorf("%q", s)
		}
		if _, runes := collect(s); Whole(s) && string(runes) != s {
			t.Errorf("%q joined", s)
		}
	}
}

func TestLetter(t *testing.T) {
	for _, c := range []rune{'a', 'm', 'z', '0', '9', 161, 'ß', 0xd7ff, 0xe000, 0xfffc, 0xfffe, 0x10ffff} {
		if !Letter(c) {
			t.Errorf("%x", c)
		}
	}
	for _, c := range []rune{'A', 'Z', '`', '{', '/', ':', ' ', '_', 0, 127, 128, 160, 0xfffd, 0xd800, 0xdfff, 0x110000, -1, -1 << 31} {
		if Letter(c) {
			t.Errorf("%x", c)
		}
	}
	for c := rune(-2); c < 0x110010; c++ {
		if Letter(c) != Name("a"+string(c)) {
			t.Fatalf("%x", c)
		}
	}
}

func TestName(t *testing.T) {
	for _, s := range []string{"a", "größe", "a2", "z0123456789abcde", strings.Repeat("ß", 16), "¡"} {
		if !Name(s) {
			t.Errorf("%q", s)
		}
	}
	for _, s := range []string{"", "2a", "0", "A", "a b", "a\xff", "\xff", "�", strings.Repeat("a", 17), strings.Repeat("ß", 17), "a-b", "a\n"} {
		if Name(s) {
			t.Errorf("%q", s)
		}
	}
}

func TestFold(t *testing.T) {
	for s, want := range map[string]string{"": "", "AbZ": "abz", "ÄA": "Äa", "@[`{": "@[`{", "\xffA\xc3": "\xffa\xc3", "a9": "a9"} {
		if Fold(s) != want || Fold(want) != want {
			t.Errorf("%q", s)
		}
	}
	if Fold("größe") != "größe" {
		t.Error("a name")
	}
}
