package script_test

import (
	"errors"
	"fmt"
	"reflect"
	"regexp"
	"slices"
	"strings"
	"testing"

	"lagleash/api"
	"lagleash/script"
)

// A second telling of what a line, a text and acts are, out of the grammar that the document's table is.

// letter is what a byte has in a word: itself, or an escape, but not both.
const (
	letter  = `(?:[!#-\[\]-~]|\\(?:[01][0-9a-f]|20|22|5c|7f|[89a-f][0-9a-f]))`
	theKey  = letter + `{1,16}`
	theText = `(?:""|` + letter + `{1,32})`
	theNode = ` +[01]`
	theN    = ` +(?:0|[1-9][0-9]{0,8})`
	anOp    = `(?: +put +` + theKey + ` +` + theText + `| +del +` + theKey + `)`
)

var grammar = regexp.MustCompile(`\A *(?:` + strings.Join([]string{
	`commit` + theNode + anOp + `{1,8}`,
	`read` + theNode + ` +` + theKey,
	`(?:tick|promote|flush|pull)` + theNode,
	`(?:deliver|twice|drop)` + theN,
	`fuse` + theNode + theN,
	`start` + theNode + theN + theN,
	`round`,
}, `|`) + `) *\z`)

var escapes = regexp.MustCompile(`\\..`)

// kinds has each kind's first word.
var kinds = map[string]int{
	"commit": kindCommit, "read": kindRead, "tick": kindTick, "promote": kindPromote, "flush": kindFlush,
	"deliver": kindDeliver, "twice": kindTwice, "drop": kindDrop, "fuse": kindFuse, "pull": kindPull,
	"start": kindStart, "round": kindRound,
}

// lineTold is what Line tells.
type lineTold struct {
	act   api.Act
	there bool
	e     api.Errno
}

func askLine(line string) lineTold {
	a, there, e := script.Line(line)
	return lineTold{tidy(a), there, e}
}

func isAct(a api.Act) lineTold       { return lineTold{act: tidy(a), there: true} }
func isNone() lineTold               { return lineTold{} }
func isRefused(e api.Errno) lineTold { return lineTold{e: e} }

// tidy answers a with no ops in one form alone, as nil and empty are the same.
func tidy(a api.Act) api.Act {
	if len(a.Ops) == 0 {
		a.Ops = nil
	}
	return a
}

func tidyAll(l []api.Act) []api.Act {
	var all []api.Act
	for _, a := range l {
		all = append(all, tidy(a))
	}
	return all
}

func alike(a, b []api.Act) bool { return reflect.DeepEqual(tidyAll(a), tidyAll(b)) }

// unword is what a word of the grammar is the word of.
func unword(w string) string {
	if w == `""` {
		return ""
	}
	return escapes.ReplaceAllStringFunc(w, func(x string) string {
		var c byte
		if _, err := fmt.Sscanf(x[1:], "%02x", &c); err != nil {
			panic(err)
		}
		return string([]byte{c})
	})
}

// tellLine is what Line should tell.
func tellLine(line string) lineTold {
	if len(line) > mostText {
		return isRefused(api.ErrLong)
	}
	if rest := strings.TrimLeft(line, " "); rest == "" || rest[0] == '#' {
		return isNone()
	}
	if !grammar.MatchString(line) {
		return isRefused(api.ErrLine)
	}
	words := strings.Fields(line)
	a := api.Act{Kind: kinds[words[0]]}
	scan := func(places ...*int) {
		for i, place := range places {
			if _, err := fmt.Sscanf(words[1+i], "%d", place); err != nil {
				panic(err)
			}
		}
	}
	switch words[0] {
	case "deliver", "twice", "drop":
		scan(&a.N)
	case "fuse":
		scan(&a.Node, &a.N)
	case "start":
		scan(&a.Node, &a.N, &a.T)
	case "read":
		scan(&a.Node)
		a.Key = unword(words[2])
	case "commit":
		scan(&a.Node)
		for rest := words[2:]; len(rest) > 0; {
			o := api.Op{Put: rest[0] == "put", Key: unword(rest[1])}
			rest = rest[2:]
			if o.Put {
				o.Value = unword(rest[0])
				rest = rest[1:]
			}
			a.Ops = append(a.Ops, o)
		}
	case "round":
	default:
		scan(&a.Node)
	}
	return isAct(a)
}

// textTold is what Parse, Print and their like tell.
type textTold struct {
	acts  []api.Act
	text  string
	wrong api.LineError // of no refusal its Err is OK
}

func wrongAt(line int, e api.Errno) textTold {
	return textTold{wrong: api.LineError{Line: line, Err: e}}
}

// told takes an error apart, which is a LineError or none at all.
func told(t testing.TB, acts []api.Act, text string, err error) textTold {
	t.Helper()
	x := textTold{acts: tidyAll(acts), text: text}
	if err == nil {
		return x
	}
	wrong, ok := err.(*api.LineError)
	if !ok || wrong == nil {
		t.Fatalf("an error that is no LineError: %T %v", err, err)
	}
	x.wrong = *wrong
	var found *api.LineError
	if !errors.As(err, &found) || found != wrong {
		t.Fatalf("errors.As finds %v of %v", found, err)
	}
	if !errors.Is(err, wrong.Err) || errors.Unwrap(err) != error(wrong.Err) {
		t.Fatalf("errors.Is does not find %d", wrong.Err)
	}
	return x
}

func askParse(t testing.TB, text string) textTold {
	t.Helper()
	l, err := script.Parse(text)
	return told(t, l, "", err)
}

func askPrint(t testing.TB, l []api.Act) textTold {
	t.Helper()
	text, err := script.Print(l)
	return told(t, nil, text, err)
}

// tellParse is what Parse should tell.
func tellParse(text string) textTold {
	if len(text) > mostText {
		return wrongAt(-1, api.ErrLong)
	}
	lines := strings.Split(text, "\n")
	if lines[len(lines)-1] == "" {
		lines = lines[:len(lines)-1]
	}
	var l []api.Act
	for i, line := range lines {
		x := tellLine(line)
		switch {
		case x.e != api.OK:
			return wrongAt(i, x.e)
		case x.there && len(l) == mostActs:
			return wrongAt(i, api.ErrLong)
		case x.there:
			l = append(l, x.act)
		}
	}
	return textTold{acts: l}
}

// word is a text's word.
func word(s string) string {
	if s == "" {
		return `""`
	}
	w := ""
	for _, c := range []byte(s) {
		if c > 32 && c < 127 && c != '"' && c != '\\' {
			w += string(rune(c))
		} else {
			w += fmt.Sprintf("\\%02x", c)
		}
	}
	return w
}

// tellText is the line of which a would be the act, if there is one: what its kind does not have is not told.
func tellText(a api.Act) string {
	name := ""
	for x, kind := range kinds {
		if kind == a.Kind {
			name = x
		}
	}
	switch a.Kind {
	case kindCommit:
		s := fmt.Sprintf("%s %d", name, a.Node)
		for _, o := range a.Ops {
			if o.Put {
				s += " put " + word(o.Key) + " " + word(o.Value)
			} else {
				s += " del " + word(o.Key)
			}
		}
		return s
	case kindRead:
		return fmt.Sprintf("%s %d %s", name, a.Node, word(a.Key))
	case kindDeliver, kindTwice, kindDrop:
		return fmt.Sprintf("%s %d", name, a.N)
	case kindFuse:
		return fmt.Sprintf("%s %d %d", name, a.Node, a.N)
	case kindStart:
		return fmt.Sprintf("%s %d %d %d", name, a.Node, a.N, a.T)
	case kindRound:
		return name
	}
	return fmt.Sprintf("%s %d", name, a.Node)
}

// tellCheck is what Check should tell: a may be, if there is a line of which it is the act.
func tellCheck(a api.Act) api.Errno {
	if reflect.DeepEqual(tellLine(tellText(a)), isAct(a)) {
		return api.OK
	}
	return api.ErrArg
}

// tellPrint is what Print should tell.
func tellPrint(l []api.Act) textTold {
	if len(l) > mostActs {
		return wrongAt(-1, api.ErrLong)
	}
	if at := slices.IndexFunc(l, func(a api.Act) bool { return tellCheck(a) != api.OK }); at >= 0 {
		return wrongAt(at, api.ErrArg)
	}
	s := ""
	for _, a := range l {
		s += tellText(a) + "\n"
	}
	if len(s) > mostText {
		return wrongAt(-1, api.ErrLong)
	}
	return textTold{text: s}
}

// short keeps what is told of much readable.
func short(x any) string {
	s := fmt.Sprintf("%+v", x)
	if text, ok := x.(string); ok {
		s = fmt.Sprintf("%q", text)
	}
	if len(s) > 700 {
		return s[:500] + " .. " + s[len(s)-180:]
	}
	return s
}

// wantLine holds what Line tells against what it should, and against the second telling.
func wantLine(t testing.TB, promise, line string, want lineTold) {
	t.Helper()
	if got := askLine(line); !reflect.DeepEqual(got, want) {
		t.Errorf("%s: Line of %s: %s, not %s", promise, short(line), short(got), short(want))
	}
	if second := tellLine(line); !reflect.DeepEqual(second, want) {
		t.Errorf("%s: Line of %s: the second telling has %s, not %s", promise, short(line), short(second), short(want))
	}
}

// holdLine holds what Line tells against the second telling.
func holdLine(t testing.TB, line string) lineTold {
	t.Helper()
	got, want := askLine(line), tellLine(line)
	if !reflect.DeepEqual(got, want) {
		t.Fatalf("P25.1: Line of %s: %s, not %s", short(line), short(got), short(want))
	}
	return got
}

func wantParse(t testing.TB, text string, want textTold) {
	t.Helper()
	want.acts = tidyAll(want.acts)
	if got := askParse(t, text); !reflect.DeepEqual(got, want) {
		t.Errorf("P25.2: Parse of %s: %s, not %s", short(text), short(got), short(want))
	}
	if second := tellParse(text); !reflect.DeepEqual(second, want) {
		t.Errorf("P25.2: Parse of %s: the second telling has %s, not %s", short(text), short(second), short(want))
	}
}

func holdParse(t testing.TB, text string) textTold {
	t.Helper()
	got, want := askParse(t, text), tellParse(text)
	if !reflect.DeepEqual(got, want) {
		t.Fatalf("P25.2: Parse of %s: %s, not %s", short(text), short(got), short(want))
	}
	return got
}

func wantPrint(t testing.TB, l []api.Act, want textTold) {
	t.Helper()
	if got := askPrint(t, l); !reflect.DeepEqual(got, want) {
		t.Errorf("P25.3: Print of %s: %s, not %s", short(l), short(got), short(want))
	}
	if second := tellPrint(l); !reflect.DeepEqual(second, want) {
		t.Errorf("P25.3: Print of %s: the second telling has %s, not %s", short(l), short(second), short(want))
	}
}

func holdPrint(t testing.TB, l []api.Act) textTold {
	t.Helper()
	got, want := askPrint(t, l), tellPrint(l)
	if !reflect.DeepEqual(got, want) {
		t.Fatalf("P25.3: Print of %s: %s, not %s", short(l), short(got), short(want))
	}
	return got
}

func wantCheck(t testing.TB, a api.Act, want api.Errno) {
	t.Helper()
	if got := script.Check(a); got != want {
		t.Errorf("P25.3: Check of %s: %d, not %d", short(a), got, want)
	}
	if second := tellCheck(a); second != want {
		t.Errorf("P25.3: Check of %s: the second telling has %d, not %d", short(a), second, want)
	}
}
