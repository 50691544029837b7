package read

import (
	"strconv"
	"strings"
	"testing"

	"siskin/api"
	"siskin/need"
)

var table = []string{"gpu", "ssd"}

func at(k int) api.Node { return api.Node{Op: api.Attr, N: k} }

func op(k int) api.Node { return api.Node{Op: k} }

func TestNeed(t *testing.T) {
	for _, c := range []struct {
		s    string
		want []api.Node
	}{
		{"*", []api.Node{op(api.Yes)}},
		{"gpu & !ssd", []api.Node{at(0), at(1), op(api.Not), op(api.And)}},
		{" gpu&!ssd ", []api.Node{at(0), at(1), op(api.Not), op(api.And)}},
		{"gpu & ssd & *", []api.Node{at(0), at(1), op(api.And), op(api.Yes), op(api.And)}},
		{"gpu & (ssd & *)", []api.Node{at(0), at(1), op(api.Yes), op(api.And), op(api.And)}},
		{"gpu | ssd | *", []api.Node{at(0), at(1), op(api.Or), op(api.Yes), op(api.Or)}},
		{"gpu | ssd & *", []api.Node{at(0), at(1), op(api.Yes), op(api.And), op(api.Or)}},
		{"(gpu | ssd) & *", []api.Node{at(0), at(1), op(api.Or), op(api.Yes), op(api.And)}},
		{"!!gpu", []api.Node{at(0), op(api.Not), op(api.Not)}},
		{"!(gpu)", []api.Node{at(0), op(api.Not)}},
		{strings.Repeat("(", 99) + "ssd" + strings.Repeat(")", 98), nil}, // one ) is missing
		{strings.Repeat("(", 98) + "ssd" + strings.Repeat(")", 98), []api.Node{at(1)}},
	} {
		got, pos, e := Need(table, c.s)
		if c.want == nil {
			if e != api.ErrForm || pos != 200 {
				t.Error(c.s, pos, e)
			}
		} else if !need.Same(got, c.want) || pos != 0 || e != api.OK || need.Check(got) != api.OK {
			t.Error(c.s, got, pos, e)
		}
	}
}

func TestErrors(t *testing.T) {
	for _, c := range []struct {
		s   string
		pos int
		e   api.Errno
	}{
		{"", 0, api.ErrForm}, {"  ", 2, api.ErrForm}, {"gpu | ", 6, api.ErrForm}, {"(gpu", 4, api.ErrForm}, {"tpu", 0, api.ErrName},
		{"gpu ssd", 4, api.ErrForm}, {"gpu tpu", 4, api.ErrForm}, {"gpu )", 4, api.ErrForm}, {")", 0, api.ErrForm}, {"()", 1, api.ErrForm},
		{"gpu & & ssd", 6, api.ErrForm}, {"gpu !", 4, api.ErrForm}, {"!", 1, api.ErrForm}, {"* (", 2, api.ErrForm}, {"& tpu", 0, api.ErrForm},
		{"tpu & &", 0, api.ErrName}, {"gpu & tpu |", 6, api.ErrName}, {"(gpu ssd", 5, api.ErrForm}, {"(gpu * )", 5, api.ErrForm},
		{"gpu +", 4, api.ErrForm}, {"tpu +", 4, api.ErrForm}, {"ß ß", 0, api.ErrName}, {"gpu &\xff", 5, api.ErrForm}, {"gpu & ß", 6, api.ErrName},
		{"(ß", 1, api.ErrName}, {"2", 0, api.ErrName}, {strings.Repeat("*&", 100) + "*", 0, api.ErrLong},
		{strings.Repeat("!", 7) + "*", 0, api.OK}, {strings.Repeat("!", 8) + "*", 0, api.ErrLong}, {strings.Repeat("!", 8) + "* *", 10, api.ErrForm},
		{"*" + strings.Repeat("|*", 16), 0, api.ErrLong}, {"gpu " + strings.Repeat(" ", 196), 0, api.OK}, {"gpu " + strings.Repeat(" ", 197), 0, api.ErrLong},
	} {
		got, pos, e := Need(table, c.s)
		if pos != c.pos || e != c.e || (e != api.OK) != (got == nil) {
			t.Errorf("%q: %v %d %d", c.s, got, pos, e)
		}
	}
}

func TestTables(t *testing.T) {
	var long []string
	for i := range 20 {
		long = append(long, "n"+strconv.Itoa(10+i))
	}
	if got, _, e := Need(long, "n25"); e != api.OK || !need.Same(got, []api.Node{at(15)}) {
		t.Error(got, e)
	}
	if got, pos, e := Need(long, "* | n26"); e != api.ErrName || pos != 4 || got != nil {
		t.Error(got, pos, e)
	}
	if got, _, _ := Need([]string{"b", "a", "a", "b"}, "a|b"); !need.Same(got, []api.Node{at(1), at(0), op(api.Or)}) {
		t.Error("the first of equal names", got)
	}
	if got, _, e := Need([]string{"2a", "(", ""}, "2a"); e != api.OK || !need.Same(got, []api.Node{at(0)}) {
		t.Error("a run need not be a name", got, e)
	}
	if _, pos, e := Need([]string{"2a", "(", ""}, "("); e != api.ErrForm || pos != 1 {
		t.Error(pos, e)
	}
	if _, _, e := Need(nil, "a"); e != api.ErrName {
		t.Error(e)
	}
}

func TestOtherPanicsContinue(t *testing.T) {
	defer func() {
		if recover() == nil {
			t.Error("a panic that is no fault was kept")
		}
	}()
	parse(nil)
}
