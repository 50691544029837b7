package lex

import (
	"slices"
	"strings"
	"testing"

	"siskin/api"
	"siskin/glyph"
)

func TestWords(t *testing.T) {
	for i, c := range []struct {
		s    string
		want []Word
	}{
		{"", nil}, {"   ", nil},
		{"gpu&!b2", []Word{{"gpu", 0}, {"&", 3}, {"!", 4}, {"b2", 5}}},
		{" ( ß1 ß)|* ", []Word{{"(", 1}, {"ß1", 3}, {"ß", 6}, {")", 7}, {"|", 8}, {"*", 9}}},
		{"2a 0", []Word{{"2a", 0}, {"0", 3}}},
		{"&&!!", []Word{{"&", 0}, {"&", 1}, {"!", 2}, {"!", 3}}},
		{strings.Repeat("a", 200), []Word{{strings.Repeat("a", 200), 0}}},
	} {
		if got, at, e := Words(c.s); !slices.Equal(got, c.want) || at != 0 || e != api.OK {
			t.Error(i, got, at, e)
		}
	}
}

func TestErrors(t *testing.T) {
	for i, c := range []struct {
		s  string
		at int
		e  api.Errno
	}{
		{"a+", 1, api.ErrForm}, {"A", 0, api.ErrForm}, {"ßß a\t", 4, api.ErrForm}, {"a \n", 2, api.ErrForm},
		{"a\xff+", 1, api.ErrForm}, {"�", 0, api.ErrForm}, {"日 ,", 2, api.ErrForm}, {"a\u00a0b", 1, api.ErrForm},
		{strings.Repeat("a", 201), 0, api.ErrLong}, {"+" + strings.Repeat("a", 200), 0, api.ErrLong},
		{strings.Repeat("ß", 100) + "+", 0, api.ErrLong}, {strings.Repeat("a", 199) + "+", 199, api.ErrForm},
	} {
		if got, at, e := Words(c.s); got != nil || at != c.at || e != c.e {
			t.Error(i, got, at, e)
		}
	}
}

func TestJoin(t *testing.T) {
	if Join() != "" || Join(Word{"a", 9}) != "a" || Join(Word{"a", 0}, Word{"", 0}, Word{"b c", 0}) != "a  b c" {
		t.Error("join")
	}
}

func TestAgain(t *testing.T) {
	for _, s := range []string{"gpu&!b2", " ( ß1 ß)|* ", "a  b", "!!x"} {
		words, _, _ := Words(s)
		again, _, e := Words(Join(words...))
		if e != api.OK || len(again) != len(words) {
			t.Error(s)
		}
		for i, w := range words {
			if again[i].Text != w.Text {
				t.Error(s, i)
			}
			if _, at := glyph.At(s, w.At); !strings.HasPrefix(s[at:], w.Text) {
				t.Error(s, i, "position")
			}
		}
	}
}
