package script_test

import (
	"fmt"
	"math"
	"reflect"
	"slices"
	"strings"
	"testing"

	"lagleash/api"
	"lagleash/script"
	"lagleash/world"
)

func newWorld(most int) *world.World {
	w, e := world.New(most)
	if e != api.OK {
		panic(fmt.Sprintf("a test asks for what may not be: %d", e))
	}
	return w
}

func refused(e api.Errno) api.Did { return api.Did{Err: e} }
func numbered(n int) api.Did      { return api.Did{Number: n} }
func sent(l ...int) api.Did       { return api.Did{Sent: l} }
func value(s string) api.Did      { return api.Did{Value: s, There: true} }

func alikeDids(a, b []api.Did) bool {
	return slices.EqualFunc(a, b, func(a, b api.Did) bool {
		sent := slices.Equal(a.Sent, b.Sent)
		a.Sent, b.Sent = nil, nil
		return sent && reflect.DeepEqual(a, b)
	})
}

// stateOf is all that a world tells.
func stateOf(w *world.World) string {
	s := fmt.Sprint(w.Most(), w.Answered(), w.Flight())
	for node := range 2 {
		p, e := w.Page(node)
		out, known, met := w.Memory(node)
		s += fmt.Sprint(w.Up(node), p, e, w.Log(node), w.Sections(node), w.Runs(node), out, known, met)
	}
	return s
}

// story has acts of all kinds, and what each comes to in a world of the leash 2.
func story() (l []api.Act, told []api.Did) {
	for _, x := range []struct {
		act api.Act
		did api.Did
	}{
		{commits(0, put("a", "1")), numbered(1)},
		{commits(0, put("b", "2")), numbered(2)},
		{commits(0, put("c", "3")), refused(api.ErrLagging)},
		{reads(0, "a"), value("1")},
		{reads(0, "x"), api.Did{}},
		{ticks(1), sent(1)},
		{doubles(1), numbered(2)},
		{delivers(1), api.Did{}},
		{drops(2), api.Did{}},
		{drops(2), refused(api.ErrMissing)},
		{ticks(0), sent(3, 4)},
		{delivers(4), sent(5)},
		{delivers(5), api.Did{}},
		{commits(0, put("c", "3")), numbered(3)},
		{flushes(0), api.Did{}},
		{promotes(0), refused(api.ErrAlreadyPrimary)},
		{promotes(1), numbered(2)},
		{commits(1, put("a", "9")), numbered(3)},
		{rounds(), sent(6, 7, 8)},
		{rounds(), sent(9, 10)},
		{fuses(1, 0), api.Did{}},
		{commits(1, del("a")), refused(api.ErrOff)},
		{ticks(1), refused(api.ErrDown)},
		{starts(1, 0, 0), api.Did{}},
		{starts(1, 0, 0), refused(api.ErrArg)},
		{pulls(0), api.Did{}},
		{reads(0, "a"), refused(api.ErrDown)},
		{starts(0, 1, 2), api.Did{}},
		{delivers(-1), refused(api.ErrMissing)},
		{ticks(2), refused(api.ErrArg)},
		{api.Act{}, refused(api.ErrArg)},
		{commits(1), refused(api.ErrArg)},
		{commits(1, dels(9)...), refused(api.ErrLong)},
	} {
		l = append(l, x.act)
		told = append(told, x.did)
	}
	return l, told
}

// P25.4: all kinds of acts, what is told of each in their order.
func TestRun(t *testing.T) {
	l, want := story()
	met := map[int]bool{}
	w, twin := newWorld(2), newWorld(2)
	got := script.Run(w, l)
	if len(got) != len(want) {
		t.Fatalf("P25.4: %d told of %d acts", len(got), len(want))
	}
	for i, a := range l {
		met[a.Kind] = true
		if did := twin.Do(a); !alikeDids([]api.Did{did}, got[i:i+1]) {
			t.Errorf("P25.4: act %d: %s: %s, not as Do tells: %s", i, short(a), short(got[i]), short(did))
		}
	}
	for i := range l {
		if !alikeDids(got[i:i+1], want[i:i+1]) {
			t.Errorf("P25.4: act %d: %s: %s, not %s", i, short(l[i]), short(got[i]), short(want[i]))
		}
	}
	if stateOf(w) != stateOf(twin) {
		t.Errorf("P25.4: the world is %s, not %s", stateOf(w), stateOf(twin))
	}
	for kind := range 13 {
		if !met[kind] {
			t.Errorf("no act of the kind %d", kind)
		}
	}
}

// P25.4: chapter 24's examples, out of a text.
func TestRunOfAText(t *testing.T) {
	l, err := script.Parse("# chapter 24\ncommit 0 put a 1\ncommit 0 put b 2\ncommit 0 put c 3\n\ntick 1\ndeliver 1\ntick 0\ndeliver 3\ndeliver 4\ncommit 0 put c 3\npromote 1\ncommit 1 put a 9\ntick 1\ndeliver 5\n")
	if err != nil {
		t.Fatal(err)
	}
	w := newWorld(2)
	want := []api.Did{numbered(1), numbered(2), refused(api.ErrLagging), sent(1), {}, sent(2, 3), sent(4), {}, numbered(3), numbered(2), numbered(3), sent(5), {}}
	if got := script.Run(w, l); !alikeDids(got, want) {
		t.Errorf("P25.4: %s, not %s", short(got), short(want))
	}
	if p, e := w.Page(0); e != api.OK || p != (api.Page{Epoch: 2, Role: api.Deposed, Phase: api.Heard}) {
		t.Errorf("P25.4: %+v, %d", p, e)
	}
}

// P25.4: act by act, some now and some later, comes to the same.
func TestRunInParts(t *testing.T) {
	l, _ := story()
	whole := newWorld(2)
	want := script.Run(whole, l)
	for at := range len(l) + 1 {
		w := newWorld(2)
		got := append(script.Run(w, l[:at]), script.Run(w, l[at:])...)
		if !alikeDids(got, want) || stateOf(w) != stateOf(whole) {
			t.Errorf("P25.4: cut at %d: %s, not %s", at, short(got), short(want))
		}
	}
}

// P25.4: no acts, and more than a script may have.
func TestRunCounts(t *testing.T) {
	w := newWorld(1)
	ahead := stateOf(w)
	for _, l := range [][]api.Act{nil, {}} {
		if got := script.Run(w, l); len(got) != 0 || stateOf(w) != ahead {
			t.Errorf("P25.4: of no acts: %s", short(got))
		}
	}
	for _, n := range []int{1, 199, 200, 201, 500} {
		got := script.Run(newWorld(1), slices.Repeat([]api.Act{reads(0, "a")}, n))
		if !alikeDids(got, make([]api.Did, n)) {
			t.Errorf("P25.4: of %d acts: %s", n, short(got))
		}
		got = script.Run(newWorld(16), slices.Repeat([]api.Act{ticks(1)}, n))
		for i, did := range got {
			if !alikeDids([]api.Did{did}, []api.Did{sent(i + 1)}) {
				t.Fatalf("P25.4: of %d acts, act %d: %s", n, i, short(did))
			}
		}
		if len(got) != n {
			t.Errorf("P25.4: of %d acts: %d", n, len(got))
		}
	}
}

// P25.4, rule 5: of a world that is nil, and of one that nobody made, nothing is told.
func TestRunOfNoWorld(t *testing.T) {
	l, _ := story()
	for _, acts := range [][]api.Act{nil, {}, {rounds()}, {{}}, l} {
		if got := script.Run(nil, acts); len(got) != 0 {
			t.Errorf("rule 5: of nil: %s", short(got))
		}
		var declared world.World
		if got := script.Run(&declared, acts); len(got) != 0 {
			t.Errorf("rule 5: of one that was declared: %s", short(got))
		}
		if got := script.Run(new(world.World), acts); len(got) != 0 {
			t.Errorf("rule 5: of one that was made by new: %s", short(got))
		}
	}
	// Of a refused leash there is no world.
	w, _ := world.New(17)
	if got := script.Run(w, l); len(got) != 0 {
		t.Errorf("rule 5: of a leash of 17: %s", short(got))
	}
}

// P25.4: each leash, as the world has it.
func TestRunOfEachLeash(t *testing.T) {
	for most := 1; most <= 16; most++ {
		l := slices.Repeat([]api.Act{commits(0, put("a", "1"))}, 20)
		for i, did := range script.Run(newWorld(most), l) {
			want := numbered(i + 1)
			if i >= most {
				want = refused(api.ErrLagging)
			}
			if !alikeDids([]api.Did{did}, []api.Did{want}) {
				t.Errorf("P5: leash %d, commit %d: %s", most, i+1, short(did))
			}
		}
	}
}

// Rule 4: what is handed in is left as it was, its spare room, too.
func TestActsAreLeftAlone(t *testing.T) {
	acts, _ := story()
	for _, l := range [][]api.Act{acts, {commits(0, put("a", "1"), del("b")), rounds()}} {
		whole := roomy(l)
		keep := roomy(l)
		script.Print(whole[:len(l)])
		for _, a := range whole[:len(l)] {
			script.Check(a)
		}
		script.Run(newWorld(2), whole[:len(l)])
		if !reflect.DeepEqual(whole, keep) {
			t.Errorf("rule 4: %s was %s", short(whole), short(keep))
		}
		for i, a := range whole {
			if !reflect.DeepEqual(a.Ops[:cap(a.Ops)], keep[i].Ops[:cap(keep[i].Ops)]) {
				t.Errorf("rule 4: the spare room of act %d was written to", i)
			}
		}
	}
}

// roomy answers l with spare room behind it and behind the ops of each act, all of which is filled.
func roomy(l []api.Act) []api.Act {
	var all []api.Act
	for _, a := range l {
		room := append(slices.Clone(a.Ops), put("spare", "room"), del("spare"))
		a.Ops = room[:len(a.Ops):len(room)]
		all = append(all, a)
	}
	return append(all, api.Act{Kind: 99, Key: "spare"}, api.Act{Kind: 98})
}

// Rule 4: what was handed in may be changed later.
func TestActsAreNotKept(t *testing.T) {
	ops := []api.Op{put("a", "1"), put("b", "2")}
	l := []api.Act{commits(0, ops...), rounds(), reads(0, "a"), rounds()}
	w, twin := newWorld(2), newWorld(2)
	script.Run(w, l)
	script.Run(twin, []api.Act{commits(0, put("a", "1"), put("b", "2")), rounds(), reads(0, "a"), rounds()})
	ops[0], ops[1] = del("x"), del("y")
	l[0], l[1] = api.Act{}, api.Act{}
	if stateOf(w) != stateOf(twin) {
		t.Errorf("rule 4: a change behind the call is seen: %s, not %s", stateOf(w), stateOf(twin))
	}
}

// Rule 4: an answer is new memory, no two lists of it share any, and nobody sees what becomes of it.
func TestAnswersAreNew(t *testing.T) {
	text := "commit 0 put a 1 del b\ncommit 1 put a 1 del b put c 3\nread 0 a\nround\ncommit 0 del k\n"
	want := tellParse(text).acts
	for at := range want {
		l, err := script.Parse(text)
		if err != nil {
			t.Fatal(err)
		}
		// All the room of one act's ops is written over: the others stay, and so does what is asked later.
		room := l[at].Ops[:cap(l[at].Ops)]
		for i := range room {
			room[i] = del("gone")
		}
		rest := l[len(l):cap(l)]
		for i := range rest {
			rest[i] = api.Act{Kind: 77}
		}
		l[at] = want[at]
		if !alike(l, want) {
			t.Errorf("rule 4: a change of act %d is seen in others: %s", at, short(l))
		}
		if again := askParse(t, text); !alike(again.acts, want) {
			t.Errorf("rule 4: a change of act %d is seen later: %s", at, short(again))
		}
	}
	first, _, _ := script.Line("commit 0 put a 1 del b")
	first.Ops[0] = del("gone")
	wantLine(t, "rule 4", "commit 0 put a 1 del b", isAct(commits(0, put("a", "1"), del("b"))))

	for _, ask := range []func() error{
		func() error { _, err := script.Parse("frob"); return err },
		func() error { _, err := script.Parse(strings.Repeat(" ", mostText+1)); return err },
		func() error { _, err := script.Print([]api.Act{{}}); return err },
		func() error { _, err := script.Print(make([]api.Act, 201)); return err },
	} {
		one, other := ask().(*api.LineError), ask().(*api.LineError)
		keep := *other
		*one = api.LineError{Line: 77, Err: 77}
		if *other != keep || *ask().(*api.LineError) != keep {
			t.Errorf("rule 4: two errors are one: %v", keep)
		}
	}

	w := newWorld(2)
	l := []api.Act{ticks(0), ticks(1), rounds()}
	got := script.Run(w, l)
	keep := stateOf(w)
	for i := range got {
		for k := range got[i].Sent {
			got[i].Sent[k] = 77
		}
		got[i] = api.Did{Number: 77}
	}
	if stateOf(w) != keep || !alikeDids(script.Run(newWorld(2), l), []api.Did{sent(1), sent(2), sent(3, 4)}) {
		t.Errorf("rule 4: a change of what Run told is seen")
	}
}

// P25.5, P11: any acts that may be, printed and read again.
func TestActsThereAndBack(t *testing.T) {
	var x turn = 5
	for range 3000 {
		l := x.acts()
		text, err := script.Print(l)
		if err != nil {
			t.Fatalf("P25.5: Print of %s: %v", short(l), err)
		}
		back, err := script.Parse(text)
		if err != nil || !alike(back, l) {
			t.Fatalf("P25.5: %s is read as %s, %v", short(l), short(back), err)
		}
		for i, line := range strings.SplitAfter(text, "\n")[:len(l)] {
			a, there, e := script.Line(strings.TrimSuffix(line, "\n"))
			if !there || e != api.OK || !alike([]api.Act{a}, l[i:i+1]) {
				t.Fatalf("P25.5: %s is read as %s, %d", short(l[i]), short(a), e)
			}
		}
	}
}

// P25.5, P11: a text whose lines are acts with single blanks, read and printed again.
func TestTextsThereAndBack(t *testing.T) {
	var x turn = 6
	all := rowLines()
	for range 3000 {
		text := ""
		for range x.below(20) {
			if x.below(2) == 0 {
				text += pick(&x, all...) + "\n"
			} else {
				text += tellText(x.act()) + "\n"
			}
		}
		l, err := script.Parse(text)
		if err != nil {
			t.Fatalf("P25.5: Parse of %s: %v", short(text), err)
		}
		if back, err := script.Print(l); err != nil || back != text {
			t.Fatalf("P25.5: %s is printed as %s, %v", short(text), short(back), err)
		}
	}
}

// P25.5: what Parse reads, printed and read again; where a line was not one with single blanks it is now.
func TestReadPrintedAndRead(t *testing.T) {
	var x turn = 7
	good := 0
	for range 4000 {
		text := x.text(40)
		l, err := script.Parse(text)
		if err != nil {
			continue
		}
		good++
		printed, err := script.Print(l)
		if err != nil {
			t.Fatalf("P25.5: Print of %s: %v", short(l), err)
		}
		back, err := script.Parse(printed)
		if err != nil || !alike(back, l) {
			t.Fatalf("P25.5: %s is printed as %s and read as %s, %v", short(l), short(printed), short(back), err)
		}
		if again, err := script.Print(back); err != nil || again != printed {
			t.Fatalf("P25.5: %s is printed again as %s, %v", short(printed), short(again), err)
		}
	}
	if good < 400 {
		t.Errorf("%d texts alone were read", good)
	}
}

// What is mixed: numbers that look random, but are always the same.
type turn uint64

func (x *turn) below(n int) int {
	*x = *x*6364136223846793005 + 1442695040888963407
	return int(uint64(*x) >> 33 % uint64(n))
}

func pick[T any](x *turn, l ...T) T { return l[x.below(len(l))] }

func (x *turn) bytes(least, most int) string {
	var b []byte
	for range least + x.below(most-least+1) {
		if x.below(3) == 0 {
			b = append(b, byte(x.below(256)))
		} else {
			b = append(b, "ab#0 \"\\\n~"[x.below(9)])
		}
	}
	return string(b)
}

func (x *turn) number() int {
	return pick(x, 0, 1, 2, 9, 10, 64, mostNumber, mostNumber-1, x.below(mostNumber+1), x.below(1000))
}

func (x *turn) op() api.Op {
	if x.below(3) == 0 {
		return del(x.bytes(1, 16))
	}
	return put(x.bytes(1, 16), x.bytes(0, 32))
}

// act is one that may be.
func (x *turn) act() api.Act {
	a := api.Act{Kind: 1 + x.below(12)}
	hasNode, hasN, hasT, hasKey, hasOps := hasField(a.Kind)
	if hasNode {
		a.Node = x.below(2)
	}
	if hasN {
		a.N = x.number()
	}
	if hasT {
		a.T = x.number()
	}
	if hasKey {
		a.Key = x.bytes(1, 16)
	}
	if hasOps {
		for range 1 + x.below(8) {
			a.Ops = append(a.Ops, x.op())
		}
	}
	return a
}

func (x *turn) acts() []api.Act {
	var l []api.Act
	for range x.below(20) {
		l = append(l, x.act())
	}
	return l
}

// bentAct is one whose fields may be anything.
func (x *turn) bentAct() api.Act {
	a := x.act()
	switch x.below(9) {
	case 0:
		a.Kind = pick(x, -1, 0, 13, 14, math.MaxInt, math.MinInt, 1+x.below(12))
	case 1:
		a.Node = pick(x, -1, 0, 1, 2, math.MaxInt, math.MinInt)
	case 2:
		a.N = pick(x, -1, 0, 1, mostNumber, mostNumber+1, math.MaxInt, math.MinInt)
	case 3:
		a.T = pick(x, -1, 0, 1, mostNumber, mostNumber+1, math.MaxInt, math.MinInt)
	case 4:
		a.Key = x.bytes(0, 18)
	case 5:
		a.Ops = append(a.Ops, x.op())
	case 6:
		a.Ops = append(a.Ops, api.Op{Put: x.below(2) == 0, Key: x.bytes(0, 18), Value: x.bytes(0, 34)})
	}
	return a
}

// line is one that is an act, one that is none, or one that is bent somewhere.
func (x *turn) line() string {
	switch x.below(12) {
	case 0:
		return pick(x, "", " ", "#", "# x", "   # tick 0", "#"+x.bytes(0, 9))
	case 1:
		return strings.ReplaceAll(x.bytes(0, 30), "\n", " ")
	case 2:
		var l []string
		for range x.below(6) {
			l = append(l, pick(x, "commit", "read", "tick", "start", "fuse", "drop", "round", "put", "del", "0", "1", "2", "01", `""`, `\20`, "a", "#"))
		}
		return strings.Join(l, pick(x, " ", "  "))
	}
	line := tellText(x.act())
	if x.below(3) == 0 {
		line = strings.ReplaceAll(line, " ", pick(x, "  ", "    "))
	}
	if x.below(3) == 0 {
		line = pick(x, "", " ", "   ") + line + pick(x, "", " ", "  ")
	}
	if x.below(6) == 0 {
		at := x.below(len(line) + 1)
		line = line[:at] + pick(x, " ", "0", "\t", "-", "x", `\`, `"`, x.bytes(1, 1)) + line[at:]
	}
	if x.below(12) == 0 {
		at := x.below(len(line) + 1)
		line = line[:at]
	}
	return line
}

// text has lines most of which are acts.
func (x *turn) text(most int) string {
	text := ""
	bent := x.below(3) == 0
	for range x.below(most) {
		line := x.line()
		if !bent && tellLine(line).e != api.OK {
			line = "round"
		}
		text += line + "\n"
	}
	if x.below(4) == 0 {
		text = strings.TrimSuffix(text, "\n")
	}
	return text
}

// All promises, of what is mixed: held against the second telling.
func TestMixed(t *testing.T) {
	var x turn = 25
	acts, none, wrong := 0, 0, 0
	for range 20000 {
		got := holdLine(t, x.line())
		switch {
		case got.there:
			acts++
		case got.e == api.OK:
			none++
		default:
			wrong++
		}
	}
	if acts < 8000 || none < 1000 || wrong < 3000 {
		t.Errorf("mixed lines: %d acts, %d none, %d wrong", acts, none, wrong)
	}
	may, not := 0, 0
	for range 20000 {
		a := x.bentAct()
		got := script.Check(a)
		if want := tellCheck(a); got != want {
			t.Fatalf("P25.3: Check of %s: %d, not %d", short(a), got, want)
		}
		if got == api.OK {
			may++
		} else {
			not++
		}
	}
	if may < 4000 || not < 4000 {
		t.Errorf("mixed acts: %d may be, %d not", may, not)
	}
	for range 500 {
		holdParse(t, x.text(230))
	}
	for range 500 {
		var l []api.Act
		for range x.below(230) {
			a := x.act()
			if x.below(400) == 0 {
				a = x.bentAct()
			}
			l = append(l, a)
		}
		holdPrint(t, l)
	}
}

// P1: what a call answers depends on its arguments alone.
func TestTheSameAgain(t *testing.T) {
	var x turn = 26
	var texts []string
	var told []textTold
	for range 200 {
		text := x.text(10)
		texts = append(texts, text)
		told = append(told, askParse(t, text))
	}
	for at := len(texts) - 1; at >= 0; at-- {
		if again := askParse(t, texts[at]); !reflect.DeepEqual(again, told[at]) {
			t.Errorf("P1: Parse of %s: %s, then %s", short(texts[at]), short(told[at]), short(again))
		}
	}
}

func FuzzText(f *testing.F) {
	for _, line := range rowLines() {
		f.Add(line, 0)
		f.Add("\n"+line+"\n# x", 3)
	}
	f.Add("tick 2\nfrob", 1)
	f.Add("  commit  0  put \\20 \"\" ", 7)
	f.Fuzz(func(t *testing.T, text string, bend int) {
		holdLine(t, text)
		got := holdParse(t, text)
		if got.wrong.Err != api.OK {
			return
		}
		printed := holdPrint(t, got.acts)
		if printed.wrong.Err == api.OK && !alike(holdParse(t, printed.text).acts, got.acts) {
			t.Fatalf("P25.5: %s is printed as %s", short(text), short(printed))
		}
		for at := range got.acts {
			a := &got.acts[at]
			switch uint(bend) % 4 {
			case 0:
				a.Kind = bend >> 2
			case 1:
				a.Node = bend >> 2
			case 2:
				a.N = bend >> 2
			case 3:
				a.T = bend >> 2
			}
			if e, want := script.Check(*a), tellCheck(*a); e != want {
				t.Fatalf("P25.3: Check of %s: %d, not %d", short(*a), e, want)
			}
		}
		holdPrint(t, got.acts)
	})
}
