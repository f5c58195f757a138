package op_test

import (
	"bytes"
	"fmt"
	"strings"
	"testing"

	"lagleash/api"
	"lagleash/op"
	"lagleash/sharing"
)

func put(key, value string) api.Op { return api.Op{Put: true, Key: key, Value: value} }
func del(key string) api.Op        { return api.Op{Key: key} }

func of(count int) string { return strings.Repeat("k", count) }

// may lists ops that may be, with their bytes and their texts written out.
func may() []struct {
	o     api.Op
	bytes []byte
	text  string
} {
	return []struct {
		o     api.Op
		bytes []byte
		text  string
	}{
		{put("a", "1"), []byte{1, 1, 97, 1, 49}, "put a 1"},
		{del("a"), []byte{0, 1, 97}, "del a"},
		{put("a", ""), []byte{1, 1, 97, 0}, `put a ""`},
		{put("ab", "xyz"), []byte{1, 2, 97, 98, 3, 120, 121, 122}, "put ab xyz"},
		{put(" ", "\x00\xff"), []byte{1, 1, 32, 2, 0, 255}, `put \20 \00\ff`},
		{put("a b", `"\`), []byte{1, 3, 97, 32, 98, 2, 34, 92}, `put a\20b \22\5c`},
		{put(`""`, "put"), []byte{1, 2, 34, 34, 3, 112, 117, 116}, `put \22\22 put`},
		{put("\xc3\xa9", "\n"), []byte{1, 2, 195, 169, 1, 10}, `put \c3\a9 \0a`},
		{del("\x00"), []byte{0, 1, 0}, `del \00`},
		{del("\x01\x01"), []byte{0, 2, 1, 1}, `del \01\01`},
		{del(of(16)), append([]byte{0, 16}, of(16)...), "del " + of(16)},
		{put(of(16), of(32)), append(append([]byte{1, 16}, of(16)...), append([]byte{32}, of(32)...)...), "put " + of(16) + " " + of(32)},
	}
}

// mayNot lists ops that may not be.
func mayNot() []api.Op {
	return []api.Op{
		{}, put("", ""), put("", "1"), del(""), {Value: "v"},
		put(of(17), ""), put(of(17), "1"), del(of(17)), put(of(300), "1"),
		put("k", of(33)), put(of(16), of(33)), put("k", of(300)), put("", of(33)),
		{Key: "k", Value: "v"}, {Key: "k", Value: "\x00"}, {Key: "k", Value: of(32)}, {Key: of(16), Value: of(33)},
	}
}

func wantRead(t *testing.T, b []byte, o api.Op, n int, e api.Errno) {
	t.Helper()
	if gotO, gotN, gotE := op.Read(b); gotO != o || gotN != n || gotE != e {
		t.Errorf("Read(%v) = %+v, %d, %d; want %+v, %d, %d", b, gotO, gotN, gotE, o, n, e)
	}
}

func wantBad(t *testing.T, b []byte) {
	t.Helper()
	wantRead(t, b, api.Op{}, 0, api.ErrBad)
}

func wantBytes(t *testing.T, w, s string, e api.Errno) {
	t.Helper()
	if gotS, gotE := op.Bytes(w); gotS != s || gotE != e {
		t.Errorf("Bytes(%q) = %q, %d; want %q, %d", w, gotS, gotE, s, e)
	}
}

func appended(t *testing.T, o api.Op) []byte {
	t.Helper()
	b, e := op.Append(nil, o)
	if e != api.OK {
		t.Fatalf("Append(none, %+v) was refused: %d", o, e)
	}
	return b
}

// P2.1

func TestCheckOfWhatMayBe(t *testing.T) {
	for _, c := range may() {
		if e := op.Check(c.o); e != api.OK {
			t.Errorf("Check(%+v) = %d; want OK", c.o, e)
		}
	}
}

func TestCheckOfWhatMayNotBe(t *testing.T) {
	for _, o := range mayNot() {
		if e := op.Check(o); e != api.ErrArg {
			t.Errorf("Check(%+v) = %d; want ErrArg", o, e)
		}
	}
}

func TestCheckOfEachLength(t *testing.T) {
	for key := range 40 {
		for value := range 40 {
			for _, isPut := range []bool{true, false} {
				want := api.ErrArg
				if key >= 1 && key <= 16 && value <= 32 && (isPut || value == 0) {
					want = api.OK
				}
				o := api.Op{Put: isPut, Key: of(key), Value: of(value)}
				if e := op.Check(o); e != want {
					t.Errorf("Check(put %t, a key of %d, a value of %d) = %d; want %d", isPut, key, value, e, want)
				}
			}
		}
	}
}

// Lengths are of bytes, not of what they are the letters of.
func TestCheckCountsBytes(t *testing.T) {
	two := "\u00e9"
	if e := op.Check(put(strings.Repeat(two, 8), strings.Repeat(two, 16))); e != api.OK {
		t.Errorf("16 and 32 bytes: %d", e)
	}
	if e := op.Check(put(strings.Repeat(two, 9), "")); e != api.ErrArg {
		t.Errorf("a key of 18 bytes: %d", e)
	}
	if e := op.Check(put("k", strings.Repeat(two, 17))); e != api.ErrArg {
		t.Errorf("a value of 34 bytes: %d", e)
	}
}

// P2.2

func TestAppendExamples(t *testing.T) {
	for _, c := range may() {
		for _, ahead := range [][]byte{nil, {}, {7}, {1, 1, 97}, bytes.Repeat([]byte{0}, 300)} {
			b, e := op.Append(ahead, c.o)
			if e != api.OK || !bytes.Equal(b, append(bytes.Clone(ahead), c.bytes...)) {
				t.Errorf("Append(%v, %+v) = %v, %d; want %v behind these", ahead, c.o, b, e, c.bytes)
			}
		}
	}
}

func TestAppendHandsOnChecksError(t *testing.T) {
	for _, o := range mayNot() {
		for _, ahead := range [][]byte{nil, {}, {1, 2}, make([]byte, 2, 300)} {
			if b, e := op.Append(ahead, o); e != op.Check(o) || e == api.OK || len(b) != 0 || cap(b) != 0 {
				t.Errorf("Append(%v, %+v) = %v, %d; want none, ErrArg", ahead, o, b, e)
			}
		}
	}
}

func TestAppendLeavesWhatIsHandedInAndAnswersNewMemory(t *testing.T) {
	ops := mayNot()
	for _, c := range may() {
		ops = append(ops, c.o)
	}
	for _, o := range ops {
		wrong := sharing.Append(func(b []byte) []byte {
			out, _ := op.Append(b, o)
			return out
		})
		if wrong != "" {
			t.Errorf("Append of %+v %s", o, wrong)
		}
	}
}

func TestReadExamples(t *testing.T) {
	wantRead(t, []byte{1, 1, 97, 1, 49, 7}, put("a", "1"), 5, api.OK)
	for _, c := range may() {
		for _, behind := range [][]byte{nil, {0}, {7}, {128}, {1, 1, 97, 1, 49}, bytes.Repeat([]byte{255}, 40)} {
			wantRead(t, append(bytes.Clone(c.bytes), behind...), c.o, len(c.bytes), api.OK)
		}
	}
}

func TestReadRefuses(t *testing.T) {
	key := of(40)
	long := func(first, count byte) []byte { return append([]byte{first, count}, key...) }
	cases := map[string][][]byte{
		"no bytes":                 {nil, {}},
		"no length behind":         {{0}, {1}},
		"another first byte":       {{2, 1, 97}, {2, 1, 97, 1, 49}, {3, 1, 97}, {128, 1, 97, 0}, {129, 1, 97, 0}, {255, 1, 97, 0}, {49, 1, 97, 0}},
		"an empty key":             {{0, 0}, {1, 0}, {1, 0, 0}, {1, 0, 1, 49}, {0, 0, 97}},
		"a key above its limit":    {long(0, 17), long(1, 17), long(0, 40), {0, 17, 97}, {0, 128, 1, 97}, {1, 255, 255, 255, 255, 255, 255, 255, 255, 255, 1, 97}},
		"a value above its limit":  {{1, 1, 97, 33}, append([]byte{1, 1, 97}, long(33, 107)...), {1, 1, 97, 128, 1}, {1, 1, 97, 255, 255, 255, 255, 255, 255, 255, 255, 255, 1}},
		"too few bytes of a key":   {{0, 1}, {1, 1}, {0, 2, 97}, {1, 2, 97}, {0, 16, 97, 97}},
		"no length of a value":     {{1, 1, 97}, {1, 2, 97, 98}},
		"too few bytes of a value": {{1, 1, 97, 1}, {1, 1, 97, 2, 49}, {1, 1, 97, 32, 49}},
		"a length that is none":    {{0, 128}, {0, 129, 0, 97}, {1, 129, 0, 97, 0}, {1, 1, 97, 128}, {1, 1, 97, 128, 0}, {1, 1, 97, 129, 0, 49}, {0, 128, 0}},
	}
	for name, list := range cases {
		t.Run(name, func(t *testing.T) {
			for _, b := range list {
				wantBad(t, b)
			}
		})
	}
}

func TestReadOfEachFirstByte(t *testing.T) {
	for c := range 256 {
		b := []byte{byte(c), 1, 97, 1, 49}
		switch c {
		case 0:
			wantRead(t, b, del("a"), 3, api.OK)
		case 1:
			wantRead(t, b, put("a", "1"), 5, api.OK)
		default:
			wantBad(t, b)
		}
	}
}

func TestReadOfEachLength(t *testing.T) {
	rest := of(200)
	for count := range 128 {
		b := append([]byte{0, byte(count)}, rest...)
		if count >= 1 && count <= 16 {
			wantRead(t, b, del(of(count)), 2+count, api.OK)
		} else {
			wantBad(t, b)
		}
		b = append([]byte{1, 1, 97, byte(count)}, rest...)
		if count <= 32 {
			wantRead(t, b, put("a", of(count)), 4+count, api.OK)
		} else {
			wantBad(t, b)
		}
	}
}

func TestReadOfCutOps(t *testing.T) {
	for _, c := range may() {
		// The end stands in the spare room of each shorter slice, which must not be read.
		for n := range c.bytes {
			wantBad(t, c.bytes[:n])
		}
	}
}

func TestReadLeavesAndKeepsNothing(t *testing.T) {
	for _, c := range may() {
		b := bytes.Clone(c.bytes)
		o, _, _ := op.Read(b)
		if !bytes.Equal(b, c.bytes) {
			t.Errorf("the bytes of %+v were changed", c.o)
		}
		for i := range b {
			b[i] = 0xEE
		}
		if o != c.o {
			t.Errorf("%+v became %+v when its bytes were overwritten", c.o, o)
		}
	}
}

// P2.3

func TestTextExamples(t *testing.T) {
	for _, c := range may() {
		if s, e := op.Text(c.o); s != c.text || e != api.OK {
			t.Errorf("Text(%+v) = %q, %d; want %q", c.o, s, e, c.text)
		}
	}
}

func TestTextHandsOnChecksError(t *testing.T) {
	for _, o := range mayNot() {
		if s, e := op.Text(o); s != "" || e != api.ErrArg {
			t.Errorf("Text(%+v) = %q, %d; want none, ErrArg", o, s, e)
		}
	}
}

// words lists bytes with their words written out.
func words() map[string]string {
	return map[string]string{
		"":                        `""`,
		"a b":                     `a\20b`,
		"\n":                      `\0a`,
		`"`:                       `\22`,
		`""`:                      `\22\22`,
		`\`:                       `\5c`,
		`\20`:                     `\5c20`,
		"\\\\":                    `\5c\5c`,
		"a":                       "a",
		"put":                     "put",
		"!#[]~":                   "!#[]~",
		" ":                       `\20`,
		"  ":                      `\20\20`,
		"\x7f":                    `\7f`,
		"\x80":                    `\80`,
		"\xff":                    `\ff`,
		"\x00":                    `\00`,
		"\x00\x01\t\r\x1f":        `\00\01\09\0d\1f`,
		"\u00e9":                  `\c3\a9`,
		"a\x00b\xfec":             `a\00b\fec`,
		"\xaba":                   `\aba`,
		strings.Repeat("ab", 500): strings.Repeat("ab", 500),
		strings.Repeat(" ", 500):  strings.Repeat(`\20`, 500),
	}
}

func TestWordExamples(t *testing.T) {
	for s, w := range words() {
		if got := op.Word(s); got != w {
			t.Errorf("Word(%q) = %q; want %q", s, got, w)
		}
	}
}

func TestBytesExamples(t *testing.T) {
	for s, w := range words() {
		wantBytes(t, w, s, api.OK)
	}
}

// wordOf is the word of one byte, by the document's words.
func wordOf(c int) string {
	if c >= 33 && c <= 126 && c != 34 && c != 92 {
		return string([]byte{byte(c)})
	}
	return fmt.Sprintf(`\%02x`, c)
}

func TestWordOfEachByte(t *testing.T) {
	all, allWord := "", ""
	for c := range 256 {
		s := string([]byte{byte(c)})
		if w := op.Word(s); w != wordOf(c) {
			t.Errorf("Word of the byte %d = %q; want %q", c, w, wordOf(c))
		}
		wantBytes(t, wordOf(c), s, api.OK)
		all += s
		allWord += wordOf(c)
	}
	if w := op.Word(all); w != allWord {
		t.Errorf("Word of every byte = %q; want %q", w, allWord)
	}
	wantBytes(t, allWord, all, api.OK)
}

func TestBytesRefuses(t *testing.T) {
	cases := map[string][]string{
		"nothing":                    {""},
		"broken off in an escape":    {`\`, `\2`, `a\`, `a\2`, `\20\`, `\20\2`, `\5c\0`},
		"other digits":               {`\2G`, `\G2`, `\2g`, `\g2`, `\0A`, `\A0`, `\fF`, `\Ff`, `\x20`, `\2 `, `\ 2`, `\2"`, `\2\20`, `\-1`, `\+1`, `\0/`, `\0:`, "\\0`", "\\2\x00", "\\\xff0", `\n`, `\n0`},
		"it stands for itself":       {`\61`, `\21`, `\23`, `\5b`, `\5d`, `\7e`, `\30`, `a\62`, `\20\61`, `\61\20`},
		"a byte that can't stand so": {" ", "a b", " a", "a ", "\n", "a\n", "\x00", "\x1f", "\x7f", "\x80", "\xff", "\u00e9"},
		"a quote that can't":         {`"`, `"""`, `""""`, `a"`, `"a`, `a""`, `""a`, `"a"`, `"" `, ` ""`, `""\20`, `\20""`},
	}
	for name, list := range cases {
		t.Run(name, func(t *testing.T) {
			for _, w := range list {
				wantBytes(t, w, "", api.ErrBad)
			}
		})
	}
}

func TestBytesOfEachSingleByte(t *testing.T) {
	for c := range 256 {
		w := string([]byte{byte(c)})
		if wordOf(c) == w {
			wantBytes(t, w, w, api.OK)
			continue
		}
		wantBytes(t, w, "", api.ErrBad)
		wantBytes(t, "a"+w, "", api.ErrBad)
		wantBytes(t, w+"a", "", api.ErrBad)
	}
}

func TestBytesOfEachEscape(t *testing.T) {
	hidden := map[string]string{}
	for c := range 256 {
		hidden[wordOf(c)] = string([]byte{byte(c)})
	}
	for high := range 256 {
		for low := range 256 {
			w := string([]byte{'\\', byte(high), byte(low)})
			if s, there := hidden[w]; there {
				wantBytes(t, w, s, api.OK)
			} else {
				wantBytes(t, w, "", api.ErrBad)
			}
		}
	}
}

// P2.4, and P11 of these calls

func TestOpThereAndBack(t *testing.T) {
	for c := range 256 {
		for key := 1; key <= 16; key++ {
			k := strings.Repeat(string([]byte{byte(c)}), key)
			checkThereAndBack(t, del(k), nil)
			for _, value := range []int{0, 1, 2, 31, 32} {
				checkThereAndBack(t, put(k, strings.Repeat(string([]byte{byte(255 - c)}), value)), []byte{byte(c)})
			}
		}
	}
}

func checkThereAndBack(t *testing.T, o api.Op, behind []byte) {
	t.Helper()
	b := appended(t, o)
	wantRead(t, b, o, len(b), api.OK)
	wantRead(t, append(b, behind...), o, len(b), api.OK)
}

func TestSeveralOneBehindTheOther(t *testing.T) {
	var b []byte
	for _, c := range may() {
		b, _ = op.Append(b, c.o)
	}
	for _, c := range may() {
		wantRead(t, b, c.o, len(c.bytes), api.OK)
		b = b[len(c.bytes):]
	}
	if len(b) != 0 {
		t.Errorf("%v is left", b)
	}
}

// Bytes are read as an op just if that op's bytes are these.
func checkRead(t *testing.T, b []byte) {
	t.Helper()
	o, n, e := op.Read(b)
	if e != api.OK {
		wantBad(t, b)
		return
	}
	if n > len(b) || op.Check(o) != api.OK || !bytes.Equal(appended(t, o), b[:n]) {
		t.Errorf("Read(%v) = %+v, %d: its bytes are others", b, o, n)
	}
}

func TestNothingElseIsRead(t *testing.T) {
	edges := []byte{0, 1, 2, 15, 16, 17, 31, 32, 33, 127, 128, 129, 255}
	rest := bytes.Repeat([]byte{1}, 60)
	for _, c := range edges {
		for _, d := range edges {
			for _, f := range edges {
				for _, g := range edges {
					b := append([]byte{c, d, f, g}, rest...)
					for _, n := range []int{1, 2, 3, 4, 5, 20, len(b)} {
						checkRead(t, b[:n])
					}
				}
			}
		}
	}
}

// A word's bytes have just that word, and it has no blank, and a byte at least.
func checkWord(t *testing.T, s string) {
	t.Helper()
	w := op.Word(s)
	wantBytes(t, w, s, api.OK)
	if w == "" || strings.ContainsAny(w, " \t\r\n\v\f\x00") {
		t.Errorf("Word(%q) = %q: a blank, or nothing", s, w)
	}
}

func checkBytes(t *testing.T, w string) {
	t.Helper()
	s, e := op.Bytes(w)
	if e != api.OK {
		wantBytes(t, w, "", api.ErrBad)
		return
	}
	if back := op.Word(s); back != w {
		t.Errorf("Bytes(%q) = %q, of which the word is %q", w, s, back)
	}
}

func TestWordsThereAndBack(t *testing.T) {
	checkWord(t, "")
	for c := range 256 {
		checkWord(t, string([]byte{byte(c)}))
		checkBytes(t, string([]byte{byte(c)}))
		for d := range 256 {
			two := string([]byte{byte(c), byte(d)})
			checkWord(t, two)
			checkBytes(t, two)
		}
	}
}

func TestOtherBytesHaveNoWord(t *testing.T) {
	parts := []string{`\`, `"`, "2", "0", "6", "1", "a", "f", "G", "A", " ", "\xff"}
	for _, a := range parts {
		for _, b := range parts {
			for _, c := range parts {
				for _, d := range parts {
					checkBytes(t, a+b+c+d)
				}
			}
		}
	}
}

// A text is told apart again at its blanks: it is three words, or two.
func TestTextIsMadeOfWords(t *testing.T) {
	for _, c := range may() {
		text, _ := op.Text(c.o)
		words := strings.Split(text, " ")
		key, _ := op.Bytes(words[1])
		back := api.Op{Key: key}
		switch {
		case words[0] == "put" && len(words) == 3:
			back.Put = true
			back.Value, _ = op.Bytes(words[2])
		case words[0] != "del" || len(words) != 2:
			t.Errorf("Text(%+v) = %q: no put of two words, no del of one", c.o, text)
		}
		if back != c.o {
			t.Errorf("Text(%+v) = %q, which tells %+v", c.o, text, back)
		}
	}
}

func FuzzRead(f *testing.F) {
	for _, c := range may() {
		f.Add(c.bytes)
	}
	f.Fuzz(func(t *testing.T, b []byte) { checkRead(t, b) })
}

func FuzzOpThereAndBack(f *testing.F) {
	f.Add(true, "a", "1", []byte{7})
	f.Fuzz(func(t *testing.T, isPut bool, key, value string, behind []byte) {
		o := api.Op{Put: isPut, Key: key, Value: value}
		if op.Check(o) == api.OK {
			checkThereAndBack(t, o, behind)
		}
	})
}

func FuzzWords(f *testing.F) {
	for s, w := range words() {
		f.Add(s)
		f.Add(w)
	}
	f.Fuzz(func(t *testing.T, s string) {
		checkWord(t, s)
		checkBytes(t, s)
	})
}
