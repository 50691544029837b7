package act

import (
	"strconv"
	"strings"

	"siskin/conf"
)

const (
	quote  = '"'
	escape = '\\'
	hex    = "0123456789abcdef"
)

// plain reports whether a byte stands for itself in a quoted string.
func plain(c byte) bool {
	return c >= ' ' && c <= '~' && c != quote && c != escape
}

// Quote returns s quoted.
func Quote(s string) string {
	b := []byte{quote}
	for _, c := range []byte(s) {
		if plain(c) {
			b = append(b, c)
		} else {
			b = append(b, escape, hex[c>>4], hex[c&15])
		}
	}
	return string(append(b, quote))
}

// Unquote returns the string whose Quote is s.
func Unquote(s string) (string, bool) {
	last := len(s) - 1
	if last < 1 || s[0] != quote || s[last] != quote {
		return "", false
	}
	var b []byte
	for i := 1; i < last; i++ {
		c := s[i]
		if c == escape {
			if i+2 >= last {
				return "", false
			}
			high, low := strings.IndexByte(hex, s[i+1]), strings.IndexByte(hex, s[i+2])
			c = byte(high<<4 | low)
			if high < 0 || low < 0 || plain(c) {
				return "", false
			}
			i += 2
		} else if !plain(c) {
			return "", false
		}
		b = append(b, c)
	}
	return string(b), true
}

// misread is what a reader panics with when it gives up.
type misread struct{}

// reader reads the words of a line.
type reader struct{ rest string }

// Read returns the action with this line.
func Read(line string) (a Act, ok bool) {
	defer func() {
		r := recover()
		if r == nil {
			return
		}
		if _, is := r.(misread); !is {
			panic(r)
		}
		a, ok = Act{}, false
	}()
	r := &reader{rest: line}
	a = r.act()
	return a, true
}

// need gives up unless ok.
func (r *reader) need(ok bool) {
	if !ok {
		panic(misread{})
	}
}

// doOf returns what an action with that word does, or -1.
func doOf(word string) int {
	for do, w := range words {
		if w == word {
			return do
		}
	}
	return -1
}

func (r *reader) act() Act {
	a := Act{Do: doOf(r.upTo(" "))}
	r.need(a.Do >= 0)
	s := shapeOf(a.Do)
	if s.a {
		a.A = r.number()
	}
	if s.b {
		a.B = r.number()
	}
	if s.bits {
		a.Bits = r.bits()
	}
	if s.j {
		a.J.ID = r.number()
		for r.rest != "" {
			a.J.Needs = append(a.J.Needs, r.quoted())
		}
	}
	r.need(r.rest == "" && valid(a))
	return a
}

// upTo takes what precedes the next end, or all that is left.
func (r *reader) upTo(end string) string {
	k := strings.Index(r.rest, end)
	if k < 0 {
		k = len(r.rest)
	}
	w := r.rest[:k]
	r.rest = r.rest[k:]
	return w
}

// word takes a space and the word behind it.
func (r *reader) word() string {
	r.need(strings.HasPrefix(r.rest, " "))
	r.rest = r.rest[1:]
	return r.upTo(" ")
}

func (r *reader) number() int {
	w := r.word()
	n, err := strconv.Atoi(w)
	r.need(err == nil && conf.Number(n) == w)
	return n
}

func (r *reader) bits() uint64 {
	w := r.word()
	n, err := strconv.ParseUint(w, 10, 64)
	r.need(err == nil && strconv.FormatUint(n, 10) == w)
	return n
}

// quoted takes a space and the quoted string behind it, which may have spaces.
func (r *reader) quoted() string {
	const open = ` "`
	r.need(strings.HasPrefix(r.rest, open))
	r.rest = r.rest[len(open):]
	inner := r.upTo(`"`)
	r.need(r.rest != "")
	r.rest = r.rest[1:]
	s, ok := Unquote(`"` + inner + `"`)
	r.need(ok)
	return s
}
