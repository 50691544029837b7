// Package whole has the tests of what is promised of all layers together.
package whole

import (
	"math"
	"math/rand"
	"reflect"
	"testing"

	"siskin/act"
	"siskin/admit"
	"siskin/annal"
	"siskin/api"
	"siskin/beat"
	"siskin/book"
	"siskin/boss"
	"siskin/cluster"
	"siskin/conf"
	"siskin/console"
	"siskin/crc"
	"siskin/disk"
	"siskin/draw"
	"siskin/event"
	"siskin/fair"
	"siskin/flock"
	"siskin/frame"
	"siskin/glyph"
	"siskin/hand"
	"siskin/job"
	"siskin/judge"
	"siskin/ledger"
	"siskin/lex"
	"siskin/link"
	"siskin/msg"
	"siskin/names"
	"siskin/need"
	"siskin/net"
	"siskin/octet"
	"siskin/pace"
	"siskin/pack"
	"siskin/port"
	"siskin/probe"
	"siskin/queue"
	"siskin/read"
	"siskin/rec"
	"siskin/report"
	"siskin/round"
	"siskin/scan"
	"siskin/sched"
	"siskin/seen"
	"siskin/sent"
	"siskin/show"
	"siskin/slots"
	"siskin/spec"
	"siskin/table"
	"siskin/worker"
)

// functions are the functions of all chapters, but for those without arguments.
var functions = map[string][]any{
	"act":     {act.Quote, act.Unquote, act.Line, act.Read, act.Text, act.Parse, act.Do, act.Same},
	"admit":   {admit.Workers, admit.Any, admit.Row, admit.Implies},
	"annal":   {annal.Open},
	"beat":    {beat.New, beat.Tick, beat.Hear, beat.Silent, beat.Same},
	"book":    {book.Step, book.Fold, book.Find, book.Open, book.Left, book.Same, book.Clone},
	"boss":    {boss.New},
	"cluster": {cluster.New},
	"conf":    {conf.Check, conf.Text, conf.Read, conf.Number, conf.Digits, conf.Same},
	"console": {console.Split, console.Run, console.Answer},
	"crc":     {crc.Of, crc.More, crc.Seal, crc.Open},
	"disk":    {disk.New},
	"draw":    {draw.New},
	"event":   {event.Step, event.Run, event.Running, event.Text},
	"fair":    {fair.New, fair.Within},
	"flock":   {flock.Of, flock.Below, flock.Has, flock.With, flock.Without, flock.Count, flock.Nth, flock.Each, flock.List},
	"frame":   {frame.Put, frame.Cut, frame.All},
	"glyph":   {glyph.Each, glyph.Count, glyph.At, glyph.Whole, glyph.Letter, glyph.Name, glyph.Fold},
	"hand":    {hand.Pick, hand.Pending, hand.All, hand.May},
	"job":     {job.Check, job.Set, job.Any, job.Bytes, job.Parse, job.Same},
	"judge":   {judge.Look, judge.Verdict, judge.Left, judge.Idle},
	"ledger":  {ledger.Open},
	"lex":     {lex.Words, lex.Join},
	"link":    {link.New, link.Put, link.Take, link.Tick, link.Same},
	"msg":     {msg.Check, msg.Bytes, msg.Parse, msg.Down, msg.Word},
	"names":   {names.Check, names.Place, names.Set, names.Tell, names.Same},
	"need":    {need.Check, need.Depth, need.Says, need.Asks, need.Parts, need.Join, need.Same},
	"net":     {net.New},
	"octet":   {octet.Num, octet.Text, octet.New},
	"pace":    {pace.Check, pace.Start, pace.Stop, pace.Tick, pace.Within},
	"pack":    {pack.Check, pack.Bytes, pack.Open},
	"port":    {port.New},
	"probe":   {probe.Workers, probe.Round, probe.Told},
	"queue":   {queue.Push, queue.Pop, queue.Drop, queue.Move, queue.Has, queue.Same},
	"read":    {read.Need},
	"rec":     {rec.Check, rec.Bytes, rec.Parse, rec.Same, rec.Size, rec.Most},
	"report":  {report.Heads, report.Hands, report.Jobs, report.Events, report.All},
	"round":   {round.New, round.Probed, round.Full, round.Came, round.Over, round.Tick, round.Same},
	"scan":    {scan.Records, scan.Bytes, scan.Whole},
	"sched":   {sched.New},
	"seen":    {seen.New, seen.Learn, seen.Take},
	"sent":    {sent.Put, sent.Acked, sent.Learn, sent.Tick, sent.First, sent.Same},
	"show":    {show.Text, show.Lines},
	"slots":   {slots.Free, slots.Ask, slots.None, slots.Give, slots.Next, slots.End, slots.Move, slots.Same},
	"spec":    {spec.Answer, spec.Kept, spec.States, spec.Fits, spec.Free},
	"table":   {table.State, table.Set, table.Of, table.In, table.Check, table.Same},
	"worker":  {worker.New},
}

var (
	numbers = []int{-1, 0, 1, 2, 3, 4, 5, 7, 8, 9, 10, 15, 16, 17, 63, 64, 65, 71, 72, 1000, 1001, api.MaxNum, api.MaxNum + 1, math.MinInt, math.MinInt + 1, math.MaxInt - 1, math.MaxInt}
	strange = []string{"", "*", "gpu", "gpu & !ssd", "(", "x y", "\xff", "größe", "!!!!!!!!!!*", "acts\n", "tick\n", "submit 0 5 \"*\"\n", "cluster 1 9 3 900 4\nnames\nworker 1 1\nacts\ntick\n"}
)

func some[T any](r *rand.Rand, l []T) T { return l[r.Intn(len(l))] }

func log() *disk.Disk {
	d := disk.New(2000)
	d.Append(scan.Bytes(api.Rec{Kind: api.Accept, Job: 5, Needs: []string{"*", "gpu"}}, api.Rec{Kind: api.Bind, Job: 5, Epoch: 1}))
	return d
}

func busy(r *rand.Rand) *cluster.Cluster {
	k := cluster.New(three())
	k.Submit(0, api.Job{ID: 5, Needs: []string{"*", "gpu"}})
	for range r.Intn(9) {
		k.Deliver(0)
	}
	return k
}

// object returns an object that arguments of a type may be, and whether there is one.
func object(r *rand.Rand, t reflect.Type) (any, bool) {
	switch t {
	case reflect.TypeFor[api.Conf]():
		return three(), r.Intn(2) == 0
	case reflect.TypeFor[*draw.Tape]():
		return draw.New(r.Uint64(), r.Uint64()), true
	case reflect.TypeFor[*disk.Disk]():
		return log(), true
	case reflect.TypeFor[*ledger.Ledger]():
		l, _ := ledger.Open(log(), 2000)
		return l, true
	case reflect.TypeFor[*cluster.Cluster]():
		return busy(r), true
	}
	return nil, false
}

// fill sets v to a random value, preferably one at an edge.
func fill(r *rand.Rand, v reflect.Value) {
	if x, ok := object(r, v.Type()); ok {
		if v.Kind() != reflect.Pointer || r.Intn(5) > 0 {
			v.Set(reflect.ValueOf(x))
		}
		return
	}
	switch v.Kind() {
	case reflect.Int, reflect.Int32:
		v.SetInt(int64(some(r, numbers)))
	case reflect.Uint64, reflect.Uint32, reflect.Uint8:
		v.SetUint(r.Uint64() >> r.Intn(64))
	case reflect.Bool:
		v.SetBool(r.Intn(2) == 0)
	case reflect.String:
		v.SetString(some(r, strange) + string(rune(r.Intn(300)))[:r.Intn(2)])
	case reflect.Slice:
		n := some(r, []int{0, 1, 2, 3, 4, 17, 70})
		v.Set(reflect.MakeSlice(v.Type(), n, n+r.Intn(3)))
		for i := range n {
			fill(r, v.Index(i))
		}
	case reflect.Struct:
		for i := range v.NumField() {
			fill(r, v.Field(i))
		}
	}
}

// call calls f with random arguments.
func call(t *testing.T, r *rand.Rand, name string, f reflect.Value) {
	var args []reflect.Value
	for i := range f.Type().NumIn() {
		a := reflect.New(f.Type().In(i)).Elem()
		fill(r, a)
		args = append(args, a)
	}
	defer func() {
		if x := recover(); x != nil {
			t.Errorf("%s panics: %v with %v", name, x, args)
		}
	}()
	if f.Type().IsVariadic() {
		f.CallSlice(args)
	} else {
		f.Call(args)
	}
}

func TestFunctionsDoNotPanic(t *testing.T) {
	r := rand.New(rand.NewSource(1))
	for name, l := range functions {
		for _, f := range l {
			for range 400 {
				call(t, r, name, reflect.ValueOf(f))
			}
		}
	}
}

func objects(r *rand.Rand) []any {
	l, _ := ledger.Open(log(), 2000)
	k := busy(r)
	return []any{octet.New([]byte{1, 2, 3, 4, 5}), draw.New(1, 2, 3), log(), annal.Open(log()), l, port.New(0, 1, 3), net.New(5), worker.New(1, 2, 2), sched.New(three(), 0), boss.New(three(), 0), k, fair.New(k, 2, 1, 0)}
}

func TestMethodsDoNotPanic(t *testing.T) {
	r := rand.New(rand.NewSource(2))
	for n := range 200 {
		for _, o := range objects(r) {
			v := reflect.ValueOf(o)
			if _, promotes := o.(*annal.Annal); n == 0 && !promotes {
				v = reflect.Zero(v.Type())
			}
			for range 40 {
				m := r.Intn(v.NumMethod())
				name := v.Type().String() + "." + v.Type().Method(m).Name
				if name == "*fair.Driver.Until" {
					continue // with as many rounds as it may be told to perform it takes too long
				}
				call(t, r, name, v.Method(m))
			}
		}
	}
}
