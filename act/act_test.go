package act

import (
	"math"
	"slices"
	"strings"
	"testing"

	"siskin/api"
	"siskin/cluster"
)

func submitOf(a, id int, needs ...string) Act { return Act{A: a, J: api.Job{ID: id, Needs: needs}} }

// lines are valid lines with their actions.
var lines = []struct {
	line string
	a    Act
}{
	{`submit 0 5 "gpu" "a\22b"`, submitOf(0, 5, "gpu", `a"b`)}, {`submit -1 -5`, submitOf(-1, -5)}, {`submit 0 0 "" " " "\0a\ff"`, submitOf(0, 0, "", " ", "\n\xff")},
	{"deliver -1", Act{Do: 1, A: -1}}, {"lose 0", Act{Do: 2}}, {"twice 9223372036854775807", Act{Do: 3, A: math.MaxInt}}, {"spoil 1 -2 4294967295", Act{Do: 4, A: 1, B: -2, Bits: 1<<32 - 1}},
	{"tick", Act{Do: 5}}, {"finish 3 0", Act{Do: 6, A: 3}}, {"crash -9223372036854775808", Act{Do: 7, A: math.MinInt}}, {"start 2", Act{Do: 8, A: 2}}, {"fuse -1", Act{Do: 9, A: -1}},
	{"draw 18446744073709551615", Act{Do: 10, Bits: math.MaxUint64}}, {"draw 0", Act{Do: 10}},
}

func TestQuote(t *testing.T) {
	for s, want := range map[string]string{"": `""`, "gpu & !a": `"gpu & !a"`, `a"b\c`: `"a\22b\5cc"`, "\x00\x1f ~\x7f\xff": `"\00\1f ~\7f\ff"`, "ß": `"\c3\9f"`} {
		if got := Quote(s); got != want {
			t.Errorf("%q", got)
		}
		if got, ok := Unquote(want); got != s || !ok {
			t.Errorf("%q", want)
		}
	}
	var all []byte
	for c := range 256 {
		all = append(all, byte(c))
	}
	if got, ok := Unquote(Quote(string(all))); got != string(all) || !ok {
		t.Error("all bytes")
	}
	for _, s := range []string{"", `"`, `a`, `"a`, `a"`, `"a"b"`, `"\"`, `"\2"`, `"\22`, `"\61"`, `"\20"`, `"\FF"`, `"\0A"`, `"\zz"`, `"\0g"`, "\"\n\"", "\"\x7f\"", `"ß"`, ` ""`, `"" `, `"\\"`, `"\1"x"`} {
		if got, ok := Unquote(s); ok || got != "" {
			t.Errorf("%q", s)
		}
	}
}

func TestLines(t *testing.T) {
	for _, c := range lines {
		if got := Line(c.a); got != c.line {
			t.Errorf("%q for %q", got, c.line)
		}
		if got, ok := Read(c.line); !ok || !Same(got, c.a) {
			t.Errorf("%q: %v", c.line, got)
		}
	}
}

func TestInvalid(t *testing.T) {
	for i, a := range []Act{
		{Do: -1}, {Do: 11}, {Do: math.MinInt}, {Do: 0, B: 1}, {Do: 0, Bits: 1}, {Do: 1, B: 1}, {Do: 2, Bits: 1}, {Do: 3, J: api.Job{ID: 1}}, {Do: 4, Bits: 1 << 32}, {Do: 4, J: api.Job{Needs: []string{""}}},
		{Do: 5, A: 1}, {Do: 5, Bits: 1}, {Do: 6, Bits: 1}, {Do: 7, B: 1}, {Do: 8, B: 1}, {Do: 9, B: 1}, {Do: 10, A: 1}, {Do: 10, B: 1},
	} {
		if Line(a) != "" || Do(cluster.New(small()), a) != api.ErrArg {
			t.Error(i)
		}
	}
	for _, line := range []string{
		"", " ", "tick ", " tick", "tick 0", "Tick", "deliver", "deliver ", "deliver  1", "deliver 1 ", "deliver 1 2", "deliver +1", "deliver -0", "deliver 01", "deliver 1\n", "deliver 9223372036854775808",
		"deliver 1_0", "deliver 0x1", "deliver a", "deliver\t1", "spoil 0 1", "spoil 0 1 4294967296", "spoil 0 1 -1", "spoil 0 1 2 3", "draw -1", "draw 18446744073709551616", "draw 00", "draw", "draw +1",
		"finish 1", "finish 1 2 3", "submit", "submit 0", "submit 0 ", `submit 0 5 `, `submit 0 5 gpu`, `submit 0 5 "gpu`, `submit 0 5 "gpu""a"`, `submit 0 5  "gpu"`, `submit 0 5 "gpu" `, `submit 0 5 "a"b"`,
		`submit 0 5 "\61"`, `submit "5" 0`, `submit 0 5 "`, "fire 1", "ticktick", "submit 0 5 \"\xc3\"",
	} {
		if got, ok := Read(line); ok || !Same(got, Act{}) {
			t.Errorf("%q: %v", line, got)
		}
	}
}

func TestTexts(t *testing.T) {
	var all []Act
	var want strings.Builder
	for _, c := range lines {
		all = append(all, c.a)
		want.WriteString(c.line + "\n")
	}
	if got := Text(all...); got != want.String() {
		t.Errorf("%q", got)
	}
	if got, n, e := Parse(want.String()); n != 0 || e != api.OK || !slices.EqualFunc(got, all, Same) {
		t.Error(n, e)
	}
	if Text() != "" || Text(Act{Do: 5}, Act{Do: 11}, Act{Do: 5}) != "tick\ntick\n" {
		t.Error("invalid actions")
	}
}

func TestParse(t *testing.T) {
	ticks := func(n int) string { return strings.Repeat("tick\n", n) }
	for i, c := range []struct {
		text string
		n    int
		e    api.Errno
	}{
		{"", 0, api.OK}, {ticks(1), 0, api.OK}, {ticks(Most), 0, api.OK}, {ticks(Most + 1), 401, api.ErrLong}, {ticks(Most) + "x", 401, api.ErrLong}, {ticks(Most) + "\n", 401, api.ErrLong},
		{ticks(Most) + "tick", 401, api.ErrLong}, {"tick", 1, api.ErrForm}, {"tick\ntick", 2, api.ErrForm}, {"\n", 1, api.ErrForm}, {"tick\n\n", 2, api.ErrForm}, {"x\n" + ticks(Most), 1, api.ErrForm},
		{ticks(399) + "tick", 400, api.ErrForm}, {ticks(399) + "x\ny", 400, api.ErrForm}, {"tick\r\n", 1, api.ErrForm}, {ticks(3) + "lose\ntick 1\n", 4, api.ErrForm},
	} {
		if got, n, e := Parse(c.text); n != c.n || e != c.e || e != api.OK && got != nil || e == api.OK && len(got) != strings.Count(c.text, "\n") {
			t.Error(i, n, e)
		}
	}
}

func small() api.Conf {
	return api.Conf{Scheds: 1, Lease: 9, Again: 3, Room: 2000, Out: 4, Workers: []api.Worker{{Slots: 1, Limit: 2}}}
}

func TestDo(t *testing.T) {
	k, same := cluster.New(small()), cluster.New(small())
	for i, c := range []struct {
		a    Act
		want api.Errno
	}{
		{Act{Do: 10, Bits: 3}, func() api.Errno { same.Draw(3); return api.OK }()}, {submitOf(0, 5, "*"), same.Submit(0, api.Job{ID: 5, Needs: []string{"*"}})}, {submitOf(0, 5, "*"), same.Submit(0, api.Job{ID: 5, Needs: []string{"*"}})},
		{Act{Do: 3, A: 0}, same.Twice(0)}, {Act{Do: 4, A: 1, B: 2, Bits: 5}, same.Spoil(1, 2, 5)}, {Act{Do: 4, A: 1, B: 2, Bits: 5}, same.Spoil(1, 2, 5)}, {Act{Do: 1, A: 1}, same.Deliver(1)}, {Act{Do: 1}, same.Deliver(0)},
		{Act{Do: 5}, same.Tick()}, {Act{Do: 2, A: 3}, same.Lose(3)}, {Act{Do: 2, A: 33}, same.Lose(33)}, {Act{Do: 1}, same.Deliver(0)}, {Act{Do: 1}, same.Deliver(0)}, {Act{Do: 1}, same.Deliver(0)}, {Act{Do: 1}, same.Deliver(0)},
		{Act{Do: 1}, same.Deliver(0)}, {Act{Do: 6}, same.Finish(0, 0)}, {Act{Do: 6, A: 0, B: 1}, same.Finish(0, 1)}, {Act{Do: 7}, same.Crash(0)}, {Act{Do: 7}, same.Crash(0)}, {Act{Do: 8}, same.Start(0)}, {Act{Do: 8, A: 7}, same.Start(7)},
		{Act{Do: 9, A: 2}, func() api.Errno { same.Fuse(2); return api.OK }()}, {submitOf(0, 6, "*"), same.Submit(0, api.Job{ID: 6, Needs: []string{"*"}})},
	} {
		if e := Do(k, c.a); e != c.want {
			t.Error(i, e, c.want)
		}
	}
	if !slices.Equal(k.Net(), same.Net()) || !slices.Equal(k.Events(), same.Events()) || k.Up(0) || len(k.Events()) < 2 {
		t.Error(k.Events(), same.Events())
	}
	two := small()
	two.Workers = append(two.Workers, two.Workers[0], two.Workers[0])
	k = cluster.New(two)
	if Do(k, Act{Do: 10, Bits: 2}) != api.OK || Do(k, submitOf(0, 5, "*")) != api.OK || k.Net()[0].To != 10 {
		t.Error("draw", k.Net())
	}
	for do := range 9 {
		if e := Do(nil, Act{Do: do}); e != api.ErrArg {
			t.Error(do, e)
		}
	}
	if Do(nil, Act{Do: 9}) != api.OK || Do(nil, Act{Do: 10}) != api.OK || Do(nil, Act{Do: 11}) != api.ErrArg {
		t.Error("nil")
	}
}

func TestSame(t *testing.T) {
	if !Same(submitOf(1, 2), Act{A: 1, J: api.Job{ID: 2, Needs: []string{}}}) || Same(Act{Do: 1}, Act{Do: 2}) || Same(Act{A: 1}, Act{}) || Same(Act{B: 1}, Act{}) || Same(Act{Bits: 1}, Act{}) || Same(submitOf(0, 1, "a"), submitOf(0, 1, "b")) {
		t.Error("same")
	}
}
