package script_test

import (
	"errors"
	"fmt"
	"math"
	"reflect"
	"slices"
	"strings"
	"testing"

	"lagleash/api"
	"lagleash/script"
)

// The limits, as the document writes them.
const (
	mostActs   = 200
	mostText   = 65536
	mostNumber = 999999999
)

// The kinds of acts, as the document lists them.
const (
	kindCommit = iota + 1
	kindRead
	kindTick
	kindPromote
	kindFlush
	kindDeliver
	kindTwice
	kindDrop
	kindFuse
	kindPull
	kindStart
	kindRound
)

func put(key, value string) api.Op { return api.Op{Put: true, Key: key, Value: value} }
func del(key string) api.Op        { return api.Op{Key: key} }

func of(count int) string { return strings.Repeat("k", count) }

// big is a batch whose text is as long as one's can be.
func big() []api.Op {
	return slices.Repeat([]api.Op{put(strings.Repeat("\xff", 16), strings.Repeat(" ", 32))}, 8)
}

func dels(count int) []api.Op { return slices.Repeat([]api.Op{del("k")}, count) }

func commits(node int, l ...api.Op) api.Act { return api.Act{Kind: kindCommit, Node: node, Ops: l} }
func reads(node int, key string) api.Act    { return api.Act{Kind: kindRead, Node: node, Key: key} }
func ticks(node int) api.Act                { return api.Act{Kind: kindTick, Node: node} }
func promotes(node int) api.Act             { return api.Act{Kind: kindPromote, Node: node} }
func flushes(node int) api.Act              { return api.Act{Kind: kindFlush, Node: node} }
func delivers(n int) api.Act                { return api.Act{Kind: kindDeliver, N: n} }
func doubles(n int) api.Act                 { return api.Act{Kind: kindTwice, N: n} }
func drops(n int) api.Act                   { return api.Act{Kind: kindDrop, N: n} }
func fuses(node, n int) api.Act             { return api.Act{Kind: kindFuse, Node: node, N: n} }
func pulls(node int) api.Act                { return api.Act{Kind: kindPull, Node: node} }
func starts(node, k, t int) api.Act         { return api.Act{Kind: kindStart, Node: node, N: k, T: t} }
func rounds() api.Act                       { return api.Act{Kind: kindRound} }

// rows has lines of each row of the document's table, with one blank between the words.
func rows() map[string]api.Act {
	return map[string]api.Act{
		"commit 0 put a 1":                       commits(0, put("a", "1")),
		"commit 1 del b":                         commits(1, del("b")),
		"commit 0 put a 1 del b":                 commits(0, put("a", "1"), del("b")),
		`commit 1 del a put b ""`:                commits(1, del("a"), put("b", "")),
		`commit 0 put \00\ff \22\5c\20\7f del #`: commits(0, put("\x00\xff", "\"\\ \x7f"), del("#")),
		"commit 1 put put del del put":           commits(1, put("put", "del"), del("put")),
		"commit 0 put " + of(16) + " " + of(32):  commits(0, put(of(16), of(32))),
		"commit 0" + strings.Repeat(" del k", 8): commits(0, dels(8)...),
		"read 0 a":                               reads(0, "a"),
		`read 1 a\20`:                            reads(1, "a "),
		"read 1 " + of(16):                       reads(1, of(16)),
		"read 0 0":                               reads(0, "0"),
		"tick 0":                                 ticks(0),
		"tick 1":                                 ticks(1),
		"promote 0":                              promotes(0),
		"promote 1":                              promotes(1),
		"flush 0":                                flushes(0),
		"flush 1":                                flushes(1),
		"pull 0":                                 pulls(0),
		"pull 1":                                 pulls(1),
		"deliver 0":                              delivers(0),
		"deliver 1":                              delivers(1),
		"deliver 999999999":                      delivers(mostNumber),
		"twice 0":                                doubles(0),
		"twice 10":                               doubles(10),
		"twice 999999999":                        doubles(mostNumber),
		"drop 0":                                 drops(0),
		"drop 123456789":                         drops(123456789),
		"drop 999999999":                         drops(mostNumber),
		"fuse 0 0":                               fuses(0, 0),
		"fuse 1 2":                               fuses(1, 2),
		"fuse 1 999999999":                       fuses(1, mostNumber),
		"start 0 0 0":                            starts(0, 0, 0),
		"start 1 2 3":                            starts(1, 2, 3),
		"start 1 999999999 0":                    starts(1, mostNumber, 0),
		"start 0 0 999999999":                    starts(0, 0, mostNumber),
		"start 1 999999999 999999999":            starts(1, mostNumber, mostNumber),
		"round":                                  rounds(),
	}
}

// rowLines lists the lines of rows, always in the same order.
func rowLines() []string {
	var l []string
	for line := range rows() {
		l = append(l, line)
	}
	slices.Sort(l)
	return l
}

func TestLimits(t *testing.T) {
	if api.MaxActs != mostActs || api.MaxText != mostText {
		t.Errorf("limits: %d, %d", api.MaxActs, api.MaxText)
	}
	if api.ErrArg != 2 || api.ErrLong != 3 || api.ErrLine != 350 {
		t.Errorf("errors: %d, %d, %d", api.ErrArg, api.ErrLong, api.ErrLine)
	}
	all := []int{api.ActCommit, api.ActRead, api.ActTick, api.ActPromote, api.ActFlush, api.ActDeliver, api.ActTwice, api.ActDrop, api.ActFuse, api.ActPull, api.ActStart, api.ActRound}
	if !slices.Equal(all, []int{1, 2, 3, 4, 5, 6, 7, 8, 9, 10, 11, 12}) {
		t.Errorf("kinds: %v", all)
	}
}

// The chapter's examples.
func TestExamples(t *testing.T) {
	wantLine(t, "example 1", "commit 0 put a 1 del b", isAct(commits(0, put("a", "1"), del("b"))))
	wantLine(t, "example 2", "start 1 2 3", isAct(starts(1, 2, 3)))
	wantLine(t, "example 2", "  round ", isAct(rounds()))
	wantLine(t, "example 2", "# x", isNone())
	wantLine(t, "example 2", "", isNone())
	for _, line := range []string{"tick 2", "tick 01", "commit 0", "commit 0 put a", "deliver -1", "round 1"} {
		wantLine(t, "example 3", line, isRefused(api.ErrLine))
	}
	wantParse(t, "tick 0\ntock 0", wrongAt(1, api.ErrLine))
	wantPrint(t, []api.Act{reads(1, "a ")}, textTold{text: "read 1 a\\20\n"})
}

// P25.1: each row of the table.
func TestRows(t *testing.T) {
	met := map[int]bool{}
	for line, act := range rows() {
		wantLine(t, "P25.1", line, isAct(act))
		met[act.Kind] = true
	}
	if len(met) != 12 {
		t.Errorf("%d kinds of twelve were met", len(met))
	}
}

// P25.1: blanks ahead, behind and between words, one and many, change nothing.
func TestBlanks(t *testing.T) {
	for line, act := range rows() {
		for _, between := range []string{" ", "  ", "         "} {
			for _, outside := range []string{"", " ", "       "} {
				wide := outside + strings.ReplaceAll(line, " ", between)
				wantLine(t, "P25.1", wide, isAct(act))
				wantLine(t, "P25.1", wide+outside, isAct(act))
			}
		}
		// Each blank in turn is a wide one, or none at all.
		for i := range line {
			if line[i] == ' ' {
				wantLine(t, "P25.1", line[:i]+"   "+line[i:], isAct(act))
				holdLine(t, line[:i]+line[i+1:])
			}
		}
	}
	for _, line := range []string{"tick0", "tick 0commit", "start 1 23", "commit 0 puta 1", "read 0a", "rou nd", "fuse 12"} {
		wantLine(t, "P25.1", line, isRefused(api.ErrLine))
	}
}

// P25.1: a blank is the byte 32 alone; all else that looks like one is a byte of a word.
func TestOtherBlanks(t *testing.T) {
	for _, other := range []string{"\t", "\n", "\v", "\f", "\r", "\x00", "\x85", "\xa0", "\u0085", "\u00a0", "\u3000", "\u2028", "\ufeff", "_", `\20`} {
		for _, line := range []string{"tick" + other + "0", other + "tick 0", "tick 0" + other, "tick " + other + " 0", other, other + other, " " + other + " ", "read 0 a" + other + "b", "round" + other, "round " + other, "commit 0 put a 1" + other + "del b"} {
			want := isRefused(api.ErrLine)
			if other == `\20` && line == `read 0 a\20b` {
				want = isAct(reads(0, "a b"))
			}
			if other == "_" && line == "read 0 a_b" {
				want = isAct(reads(0, "a_b"))
			}
			wantLine(t, "P25.1", line, want)
		}
	}
}

// P25.1: a line without words, or whose first word begins with #, is no act, and nothing is wrong with it.
func TestNoAct(t *testing.T) {
	for _, line := range []string{"", " ", "  ", strings.Repeat(" ", 1000)} {
		wantLine(t, "P25.1", line, isNone())
		for _, remark := range []string{"#", "##", "#x", "# x", "#tick 0", "# tick 0", "#   ", "# commit 0 put", `#\`, "#\xff", "#\t", "# \"", "#\x00 \x01"} {
			wantLine(t, "P25.1", line+remark, isNone())
		}
	}
	// The words say so of each such line; that a byte 10 is in it changes nothing.
	wantLine(t, "P25.1", "# a\nb", isNone())
	for _, line := range []string{"x#", "tick# 0", "tick #", "tick 0 #", "tick 0 # x", "tick 0#", "round #", "\t#", "\n# x", "\\23", `"" #`, "deliver 1 #1"} {
		wantLine(t, "P25.1", line, isRefused(api.ErrLine))
	}
	wantLine(t, "P25.1", "read 0 #", isAct(reads(0, "#")))
	wantLine(t, "P25.1", "read 0 #a", isAct(reads(0, "#a")))
}

// P25.1: a byte 10 in a line of the table makes it none.
func TestByteTen(t *testing.T) {
	for _, line := range rowLines() {
		for i := range len(line) + 1 {
			for _, ten := range []string{"\n", " \n", "\n ", " \n "} {
				wantLine(t, "P25.1", line[:i]+ten+line[i:], isRefused(api.ErrLine))
			}
		}
	}
}

// P25.1: words too few, words too many.
func TestHowManyWords(t *testing.T) {
	for line, act := range rows() {
		words := strings.Fields(line)
		for n := 1; n < len(words); n++ {
			cut := strings.Join(words[:n], " ")
			if act.Kind != kindCommit {
				wantLine(t, "P25.1", cut, isRefused(api.ErrLine))
			} else {
				holdLine(t, cut)
			}
		}
		for _, more := range []string{"0", "1", "a", "tick", "round", `""`, "del", "put", "put a", "del \n", "#"} {
			wantLine(t, "P25.1", line+" "+more, isRefused(api.ErrLine))
		}
		// A word that is left out, one that is doubled.
		for i := range words {
			holdLine(t, strings.Join(slices.Delete(slices.Clone(words), i, i+1), " "))
			holdLine(t, strings.Join(slices.Insert(slices.Clone(words), i, words[i]), " "))
		}
	}
	for _, line := range []string{"commit", "commit 0", "commit 0 put", "commit 0 put a", "commit 0 del", "commit 0 put a 1 del", "commit 0 del a b", "commit 0 put a 1 2", "read", "read 0", "read 0 a b", "read a", "tick", "tick 0 0", "promote", "promote 1 1", "flush", "flush 0 1", "pull", "pull 1 0", "deliver", "deliver 1 1", "twice", "twice 0 0", "drop", "drop 2 3", "fuse", "fuse 0", "fuse 0 0 0", "start", "start 0", "start 0 0", "start 0 0 0 0", "round 0"} {
		wantLine(t, "P25.1", line, isRefused(api.ErrLine))
	}
}

// P25.1: the first word is one of the table's, letter by letter.
func TestFirstWord(t *testing.T) {
	for line := range rows() {
		name, rest, _ := strings.Cut(line, " ")
		for _, other := range []string{strings.ToUpper(name), strings.ToUpper(name[:1]) + name[1:], name[1:], name + "s", name + name, "-" + name, name + ".", name + ":", `"` + name + `"`, "", "act", "0", "put", "del", "world", "pages", "settle", "delete", "start-"} {
			wantLine(t, "P25.1", strings.TrimRight(other+" "+rest, " "), noActUnlessNothing(other+rest))
		}
		for n := 1; n < len(name); n++ {
			wantLine(t, "P25.1", strings.TrimRight(name[:n]+" "+rest, " "), isRefused(api.ErrLine))
		}
		// Another row's name over these words.
		for _, other := range rowLines() {
			holdLine(t, strings.TrimRight(strings.Fields(other)[0]+" "+rest, " "))
		}
	}
}

func noActUnlessNothing(line string) lineTold {
	if line == "" || strings.HasPrefix(line, "#") {
		return isNone()
	}
	return isRefused(api.ErrLine)
}

// badNumbers are words that are no number.
func badNumbers() []string {
	return []string{"00", "01", "007", "000000000", "000000001", "0999999999", "1000000000", "1000000001", "9999999999", "0000000001", "2147483648", "4294967296", "4294967297", "9223372036854775807", "9223372036854775808", "18446744073709551616", "18446744073709551617", strings.Repeat("1", 100), strings.Repeat("0", 100), "-1", "-0", "+1", "+0", "--1", "-", "+", "1.0", ".1", "1.", "1e3", "1E0", "0x1", "0X1", "0b1", "0o1", "1_0", "1,0", "1a", "a1", "a", `""`, `\31`, "'1'", `"1"`, "٣", "１", "²", "1\x00", "\x001", "1\t", "\xb1", "1\n", "1#", "/", ":", "1/", "1:"}
}

// P25.1: a number has 1 to 9 digits without noughts ahead.
func TestNumbers(t *testing.T) {
	forms := []string{"deliver %s", "twice %s", "drop %s", "fuse 0 %s", "fuse 1 %s", "start 0 %s 1", "start 1 1 %s"}
	for _, form := range forms {
		for _, bad := range badNumbers() {
			wantLine(t, "P25.1", fmt.Sprintf(form, bad), isRefused(api.ErrLine))
		}
		for _, bad := range []string{"", " "} {
			wantLine(t, "P25.1", fmt.Sprintf(form, bad), isRefused(api.ErrLine))
		}
		for _, x := range []int{0, 1, 2, 9, 10, 11, 19, 20, 99, 100, 101, 512, 9999, 65536, 1048576, 12345678, 99999999, 100000000, 123456789, 999999998, 999999999} {
			got := holdLine(t, fmt.Sprintf(form, fmt.Sprint(x)))
			if !got.there || got.act.N != x && got.act.T != x {
				t.Errorf("P25.1: %s of %d: %s", form, x, short(got))
			}
		}
	}
}

// P25.1: a node is 0 or 1.
func TestNodes(t *testing.T) {
	forms := []string{"commit %s put a 1", "commit %s del a", "read %s a", "tick %s", "promote %s", "flush %s", "pull %s", "fuse %s 0", "start %s 0 0"}
	for _, form := range forms {
		for _, bad := range append(badNumbers(), "2", "3", "9", "10", "11", "999999999", "", "  ") {
			wantLine(t, "P25.1", fmt.Sprintf(form, bad), isRefused(api.ErrLine))
		}
		for node := range 2 {
			got := holdLine(t, fmt.Sprintf(form, fmt.Sprint(node)))
			if !got.there || got.act.Node != node {
				t.Errorf("P25.1: %s of %d: %s", form, node, short(got))
			}
		}
	}
}

// P25.1: keys of 1 to 16 bytes, values of 0 to 32, whatever bytes these are; other words are none.
func TestKeysAndValues(t *testing.T) {
	for n := range 40 {
		for _, c := range []string{"k", "\x00", "\xff", " "} {
			s := strings.Repeat(c, n)
			key, value := isRefused(api.ErrLine), isRefused(api.ErrLine)
			gone, got := key, key
			if n >= 1 && n <= 16 {
				key, gone, got = isAct(reads(0, s)), isAct(commits(1, del(s))), isAct(commits(1, put(s, "")))
			}
			if n <= 32 {
				value = isAct(commits(0, put("a", s)))
			}
			wantLine(t, "P25.1", "read 0 "+word(s), key)
			wantLine(t, "P25.1", "commit 1 del "+word(s), gone)
			wantLine(t, "P25.1", "commit 1 put "+word(s)+` ""`, got)
			wantLine(t, "P25.1", "commit 0 put a "+word(s), value)
		}
	}
	for c := range 256 {
		s := string([]byte{byte(c)})
		wantLine(t, "P25.1", "read 1 "+word(s), isAct(reads(1, s)))
		wantLine(t, "P25.1", "commit 1 put "+word(s)+" "+word(s+s), isAct(commits(1, put(s, s+s))))
		// The same byte in other forms: as it is, as an escape, as one in capital letters.
		for _, w := range []string{s, fmt.Sprintf("\\%02x", c), fmt.Sprintf("\\%02X", c), "\\" + s, fmt.Sprintf("\\%x", c)} {
			holdLine(t, "read 1 "+w)
			holdLine(t, "read 1 a"+w+"b")
			holdLine(t, "commit 0 put a "+w)
		}
	}
	for _, w := range []string{`"`, `"a`, `a"`, `"a"`, `"""`, `""""`, `a""`, `""a`, `\`, `\\`, `\2`, `\2G`, `\0A`, `\61`, `\g0`, `\0`, `a\`, `\20\`, `\ 20`, "é", "\xff", "\t", "\x7f", `\x20`, `\n`} {
		wantLine(t, "P25.1", "read 0 "+w, isRefused(api.ErrLine))
		wantLine(t, "P25.1", "commit 0 put "+w+" 1", isRefused(api.ErrLine))
		wantLine(t, "P25.1", "commit 0 put a "+w, isRefused(api.ErrLine))
		wantLine(t, "P25.1", "commit 0 del "+w, isRefused(api.ErrLine))
		wantLine(t, "P25.1", "commit 0 del a put b "+w+" del c", isRefused(api.ErrLine))
	}
	wantLine(t, "P25.1", `read 0 ""`, isRefused(api.ErrLine))
	wantLine(t, "P25.1", `commit 0 del ""`, isRefused(api.ErrLine))
	wantLine(t, "P25.1", `commit 0 put "" 1`, isRefused(api.ErrLine))
	wantLine(t, "P25.1", `commit 0 put a ""`, isAct(commits(0, put("a", ""))))
}

// P25.1: one to eight ops; a key may stand in them more than once.
func TestBatches(t *testing.T) {
	for n := range 12 {
		line := "commit 1" + strings.Repeat(" put a 1", n)
		want := isRefused(api.ErrLine)
		if n >= 1 && n <= 8 {
			want = isAct(commits(1, slices.Repeat([]api.Op{put("a", "1")}, n)...))
		}
		wantLine(t, "P25.1", line, want)
		// One op that may not be, at each place.
		for at := range n {
			wantLine(t, "P25.1", "commit 1"+strings.Repeat(" put a 1", at)+` del ""`+strings.Repeat(" put a 1", n-at-1), isRefused(api.ErrLine))
			wantLine(t, "P25.1", "commit 1"+strings.Repeat(" put a 1", at)+` put a \`+strings.Repeat(" put a 1", n-at-1), isRefused(api.ErrLine))
			wantLine(t, "P25.1", "commit 1"+strings.Repeat(" put a 1", at)+` drop a`+strings.Repeat(" put a 1", n-at-1), isRefused(api.ErrLine))
		}
	}
	for _, line := range []string{"commit 0 Put a 1", "commit 0 PUT a 1", "commit 0 puts a 1", "commit 0 pu a 1", "commit 0 delete a", "commit 0 Del a", "commit 0 de a", "commit 0 get a", "commit 0 a 1", "commit 0 0 a 1", "commit put a 1", "commit put a 1 0", "commit 0 1 put a 1", `commit 0 "" a 1`, "commit 0 put a 1 round", "commit 0 put a 1 commit 0 put a 1"} {
		wantLine(t, "P25.1", line, isRefused(api.ErrLine))
	}
	wantLine(t, "P25.1", "commit 0"+strings.Repeat(" put put put del del", 4), isAct(commits(0, slices.Repeat([]api.Op{put("put", "put"), del("del")}, 4)...)))
	wantLine(t, "P25.1", tellText(commits(0, big()...)), isAct(commits(0, big()...)))
}

// P25.1: 65,536 bytes, and one more: ErrLong is ahead of all else.
func TestLongLines(t *testing.T) {
	blanks := func(count int) string { return strings.Repeat(" ", count) }
	for _, x := range []struct {
		start string // the line's first bytes
		fill  string // what is behind them, again and again
		end   string // its last bytes
		want  lineTold
	}{
		{"", " ", "", isNone()},
		{"#", "x", "", isNone()},
		{"# ", "x ", "", isNone()},
		{"", " ", "#", isNone()},
		{"", " ", "# x", isNone()},
		{"", " ", "round", isAct(rounds())},
		{"round", " ", "", isAct(rounds())},
		{"start 1", " ", "2 3", isAct(starts(1, 2, 3))},
		{"commit 0 put a 1", " ", "", isAct(commits(0, put("a", "1")))},
		{"", "x", "", isRefused(api.ErrLine)},
		{"", "\n", "", isRefused(api.ErrLine)},
		{"", " ", "\n", isRefused(api.ErrLine)},
		{"\n", " ", "", isRefused(api.ErrLine)},
		{"tick 0", " ", "\n", isRefused(api.ErrLine)},
		{"tick ", "0", "", isRefused(api.ErrLine)},
		{"deliver ", "1", "", isRefused(api.ErrLine)},
		{"read 0 ", "k", "", isRefused(api.ErrLine)},
		{"commit 0 put a ", "k", "", isRefused(api.ErrLine)},
		{"commit 0", " del a", "", isRefused(api.ErrLine)},
		{"", "tick 0 ", "", isRefused(api.ErrLine)},
		{"", "\xff", "", isRefused(api.ErrLine)},
	} {
		for _, size := range []int{mostText - 1, mostText, mostText + 1, mostText + 2, 2 * mostText} {
			room := size - len(x.start) - len(x.end)
			line := x.start + strings.Repeat(x.fill, room)[:room] + x.end
			got, want := askLine(line), x.want
			if size > mostText {
				want = isRefused(api.ErrLong)
			}
			if len(line) != size || !reflect.DeepEqual(got, want) {
				t.Errorf("P25.1: Line of %d bytes, %s: %s, not %s", len(line), short(line), short(got), short(want))
			}
		}
	}
	wantLine(t, "P25.1", blanks(mostText), isNone())
	wantLine(t, "P25.1", blanks(mostText+1), isRefused(api.ErrLong))
	wantLine(t, "P25.1", blanks(mostText)+"\n", isRefused(api.ErrLong))
	wantLine(t, "P25.1", "#"+blanks(mostText), isRefused(api.ErrLong))
	wantLine(t, "P25.1", blanks(mostText-7)+"tick 0\n", isRefused(api.ErrLine))
	wantLine(t, "P25.1", blanks(mostText-6)+"tick 0\n", isRefused(api.ErrLong))
	wantLine(t, "P25.1", blanks(mostText-6)+"tick 0", isAct(ticks(0)))
	wantLine(t, "P25.1", blanks(mostText-5)+"tick 0", isRefused(api.ErrLong))
}

// P25.1: each row with any byte put in at each place, in the place of each byte, and without each byte.
func TestEveryByte(t *testing.T) {
	for _, line := range rowLines() {
		if len(line) > 40 {
			continue
		}
		for i := range len(line) + 1 {
			for c := range 256 {
				x := string([]byte{byte(c)})
				holdLine(t, line[:i]+x+line[i:])
				if i < len(line) {
					holdLine(t, line[:i]+x+line[i+1:])
				}
			}
			if i < len(line) {
				holdLine(t, line[:i]+line[i+1:])
			}
		}
	}
}

// P25.1, P25.3: every act of small fields, by its line; every line of few words.
func TestEveryLineOfFewWords(t *testing.T) {
	words := []string{"commit", "read", "tick", "deliver", "fuse", "start", "round", "put", "del", "0", "1", "2", `""`, "a"}
	lines := []string{""}
	for range 4 {
		var next []string
		for _, line := range lines {
			holdLine(t, line)
			for _, w := range words {
				next = append(next, line+" "+w)
			}
		}
		lines = next
	}
	for _, line := range lines {
		holdLine(t, line)
	}
}

// P25.2: an empty text, a text that ends with a byte 10, and one that does not.
func TestTexts(t *testing.T) {
	wantParse(t, "", textTold{})
	wantParse(t, "\n", textTold{})
	wantParse(t, " ", textTold{})
	wantParse(t, "\n\n\n", textTold{})
	wantParse(t, "tick 0", textTold{acts: []api.Act{ticks(0)}})
	wantParse(t, "tick 0\n", textTold{acts: []api.Act{ticks(0)}})
	wantParse(t, "tick 0\n\n", textTold{acts: []api.Act{ticks(0)}})
	wantParse(t, "\ntick 0", textTold{acts: []api.Act{ticks(0)}})
	wantParse(t, "tick 0\ntick 1", textTold{acts: []api.Act{ticks(0), ticks(1)}})
	wantParse(t, "tick 0\ntick 1\n", textTold{acts: []api.Act{ticks(0), ticks(1)}})
	wantParse(t, "# tick 0\n tick 1 \n", textTold{acts: []api.Act{ticks(1)}})
	wantParse(t, "tick 0\n# round", textTold{acts: []api.Act{ticks(0)}})
	wantParse(t, "#", textTold{})
	wantParse(t, "# a\nround\n# b\n", textTold{acts: []api.Act{rounds()}})
	// A byte 13 is a byte like others.
	wantParse(t, "tick 0\r\ntick 1\r\n", wrongAt(0, api.ErrLine))
	wantParse(t, "# a\r\n\r\n", wrongAt(1, api.ErrLine))
	wantParse(t, "tick 0\rtick 1", wrongAt(0, api.ErrLine))
	var all string
	var acts []api.Act
	for _, line := range rowLines() {
		all += line + "\n"
		acts = append(acts, rows()[line])
	}
	wantParse(t, all, textTold{acts: acts})
	wantParse(t, all[:len(all)-1], textTold{acts: acts})
	wantParse(t, strings.ReplaceAll(all, "\n", "\n\n# x\n  \n"), textTold{acts: acts})
}

// P25.2: the first line that is refused is told, lines that are no act counted, too.
func TestTheLineThatIsRefused(t *testing.T) {
	wantParse(t, "tock 0", wrongAt(0, api.ErrLine))
	wantParse(t, "tock 0\n", wrongAt(0, api.ErrLine))
	wantParse(t, "tick 0\ntock 0\n", wrongAt(1, api.ErrLine))
	wantParse(t, "\ntock 0", wrongAt(1, api.ErrLine))
	wantParse(t, "\n\n# x\n   \ntick 0\n\ntick 2\ntick 0", wrongAt(6, api.ErrLine))
	wantParse(t, "x\ny\nz", wrongAt(0, api.ErrLine))
	wantParse(t, "tick 0\ny\nz", wrongAt(1, api.ErrLine))
	wantParse(t, "\x00", wrongAt(0, api.ErrLine))
	good := []string{"tick 0", "", "  ", "# x", "round", "commit 0 put a 1"}
	for n := range 40 {
		for at := range n {
			var l []string
			for i := range n {
				l = append(l, good[(i+at)%len(good)])
			}
			l[at] = "frob"
			wantParse(t, strings.Join(l, "\n"), wrongAt(at, api.ErrLine))
			wantParse(t, strings.Join(l, "\n")+"\n", wrongAt(at, api.ErrLine))
			// A second one behind it changes nothing.
			l[n-1] = "frob"
			wantParse(t, strings.Join(l, "\n"), wrongAt(at, api.ErrLine))
		}
	}
}

// P25.2: 200 acts, 201 acts.
func TestTooManyActs(t *testing.T) {
	many := func(n int) string { return strings.Repeat("tick 0\n", n) }
	for _, n := range []int{1, 2, 199, 200} {
		wantParse(t, many(n), textTold{acts: slices.Repeat([]api.Act{ticks(0)}, n)})
		wantParse(t, strings.TrimSuffix(many(n), "\n"), textTold{acts: slices.Repeat([]api.Act{ticks(0)}, n)})
	}
	wantParse(t, many(201), wrongAt(200, api.ErrLong))
	wantParse(t, many(200)+"tick 0", wrongAt(200, api.ErrLong))
	wantParse(t, many(202), wrongAt(200, api.ErrLong))
	wantParse(t, many(5000), wrongAt(200, api.ErrLong))
	// Behind 200 acts lines that are no act are as good as ever.
	full := slices.Repeat([]api.Act{ticks(0)}, 200)
	wantParse(t, many(200)+"\n# x\n  \n\n", textTold{acts: full})
	wantParse(t, many(200)+strings.Repeat("\n", 1000), textTold{acts: full})
	wantParse(t, many(200)+"\n# x\n  \nround", wrongAt(203, api.ErrLong))
	wantParse(t, strings.Repeat("\n", 1000)+many(200), textTold{acts: full})
	wantParse(t, strings.Repeat("\n", 1000)+many(201), wrongAt(1200, api.ErrLong))
	wantParse(t, strings.Repeat("# x\ntick 0\n", 201), wrongAt(401, api.ErrLong))
	// Whichever comes first: a line that is refused, or the act too many.
	wantParse(t, many(200)+"tock 0", wrongAt(200, api.ErrLine))
	wantParse(t, many(200)+"tock 0\ntick 0", wrongAt(200, api.ErrLine))
	wantParse(t, many(200)+"tick 0\ntock 0", wrongAt(200, api.ErrLong))
	wantParse(t, many(199)+"tock 0\n"+many(5), wrongAt(199, api.ErrLine))
	wantParse(t, "tock 0\n"+many(300), wrongAt(0, api.ErrLine))
}

// P25.2: 65,536 bytes, and one more: that is ahead of all else.
func TestLongTexts(t *testing.T) {
	for _, fill := range []string{"\n", " ", "#", "# x\n", "tick 0\n", "tock 0\n", "x"} {
		for _, size := range []int{mostText - 1, mostText, mostText + 1, mostText + 7, 3 * mostText} {
			text := strings.Repeat(fill, size)[:size]
			got := holdParse(t, text)
			if (got.wrong == api.LineError{Line: -1, Err: api.ErrLong}) != (size > mostText) {
				t.Errorf("P25.2: Parse of %d bytes of %q: %s", size, fill, short(got))
			}
		}
	}
	wantParse(t, strings.Repeat("\n", mostText), textTold{})
	wantParse(t, strings.Repeat("\n", mostText+1), wrongAt(-1, api.ErrLong))
	wantParse(t, strings.Repeat("\n", mostText-5)+"round", textTold{acts: []api.Act{rounds()}})
	wantParse(t, strings.Repeat("\n", mostText-5)+"roand", wrongAt(mostText-5, api.ErrLine))
	wantParse(t, strings.Repeat("\n", mostText-4)+"round", wrongAt(-1, api.ErrLong))
	wantParse(t, strings.Repeat("\n", mostText-1)+"x", wrongAt(mostText-1, api.ErrLine))
	wantParse(t, "x"+strings.Repeat("\n", mostText-1), wrongAt(0, api.ErrLine))
	wantParse(t, "x"+strings.Repeat("\n", mostText), wrongAt(-1, api.ErrLong))
}

// hasField says which fields a kind has, as the document's table does.
func hasField(kind int) (node, n, t, key, ops bool) {
	switch kind {
	case kindCommit:
		return true, false, false, false, true
	case kindRead:
		return true, false, false, true, false
	case kindTick, kindPromote, kindFlush, kindPull:
		return true, false, false, false, false
	case kindDeliver, kindTwice, kindDrop:
		return false, true, false, false, false
	case kindFuse:
		return true, true, false, false, false
	case kindStart:
		return true, true, true, false, false
	}
	return false, false, false, false, false
}

func within(x int, has bool, most int) bool {
	if !has {
		return x == 0
	}
	return x >= 0 && x <= most
}

// P25.3: each kind with each of its fields at its bounds and past them, and each field that it does not have filled.
func TestCheck(t *testing.T) {
	nodes := []int{math.MinInt, -1, 0, 1, 2, math.MaxInt}
	numbers := []int{math.MinInt, -1, 0, 1, mostNumber, mostNumber + 1, math.MaxInt}
	keys := []string{"", "a", of(16), of(17), "\x00\xff"}
	batches := [][]api.Op{nil, {}, {put("a", "1")}, dels(8), dels(9), {del("")}, {put("a", of(33))}}
	good := 0
	for kind := -1; kind <= 14; kind++ {
		hasNode, hasN, hasT, hasKey, hasOps := hasField(kind)
		for _, node := range nodes {
			for _, n := range numbers {
				for _, k := range numbers {
					for _, key := range keys {
						for at, l := range batches {
							may := kind >= 1 && kind <= 12 && within(node, hasNode, 1) && within(n, hasN, mostNumber) && within(k, hasT, mostNumber)
							may = may && (hasKey && len(key) >= 1 && len(key) <= 16 || !hasKey && key == "")
							may = may && (hasOps && (at == 2 || at == 3) || !hasOps && at < 2)
							a := api.Act{Kind: kind, Node: node, N: n, T: k, Key: key, Ops: l}
							want := api.ErrArg
							if may {
								want = api.OK
								good++
							}
							if got := script.Check(a); got != want {
								t.Fatalf("P25.3: Check of %s: %d, not %d", short(a), got, want)
							}
						}
					}
				}
			}
		}
	}
	// Nodes, numbers, keys and batches that may be: 2, 3, 3 and 2; no ops have two forms where there are none to have.
	if good != 2*2+2*3*2+4*2*2+3*3*2+2*3*2+2*3*3*2+2 {
		t.Errorf("P25.3: %d acts may be", good)
	}
}

// P25.3: a kind that is none of the twelve.
func TestCheckKinds(t *testing.T) {
	for _, kind := range []int{math.MinInt, -12, -1, 0, 13, 14, 256, 257, 268, math.MaxInt} {
		wantCheck(t, api.Act{Kind: kind}, api.ErrArg)
		wantCheck(t, api.Act{Kind: kind, Node: 1}, api.ErrArg)
		wantCheck(t, api.Act{Kind: kind, N: 1}, api.ErrArg)
		wantCheck(t, api.Act{Kind: kind, Key: "a"}, api.ErrArg)
		wantCheck(t, api.Act{Kind: kind, Ops: dels(1)}, api.ErrArg)
		wantPrint(t, []api.Act{{Kind: kind}}, wrongAt(0, api.ErrArg))
	}
}

// P25.3: keys, values and batches of acts.
func TestCheckOps(t *testing.T) {
	for n := range 20 {
		key, may := api.ErrArg, api.ErrArg
		if n >= 1 && n <= 16 {
			key = api.OK
		}
		if n >= 1 && n <= 8 {
			may = api.OK
		}
		for _, c := range []string{"k", "\n", "\xff", "\""} {
			wantCheck(t, reads(0, strings.Repeat(c, n)), key)
			wantCheck(t, commits(1, put("a", "1"), del(strings.Repeat(c, n))), key)
			wantCheck(t, commits(1, put(strings.Repeat(c, n), "1")), key)
		}
		wantCheck(t, commits(0, dels(n)...), may)
	}
	for _, n := range []int{0, 1, 31, 32, 33, 1000} {
		want := api.OK
		if n > 32 {
			want = api.ErrArg
		}
		wantCheck(t, commits(0, put("a", of(n))), want)
	}
	wantCheck(t, commits(0, api.Op{Key: "a", Value: "1"}), api.ErrArg)
	wantCheck(t, commits(0, append(dels(7), api.Op{Key: "a", Value: "1"})...), api.ErrArg)
	wantCheck(t, commits(0, append(dels(8), api.Op{Key: "a", Value: "1"})...), api.ErrArg)
}

// P25.3: an act's text is its line with one blank between each two words.
func TestPrintRows(t *testing.T) {
	wantPrint(t, nil, textTold{})
	wantPrint(t, []api.Act{}, textTold{})
	var all string
	var acts []api.Act
	for _, line := range rowLines() {
		act := rows()[line]
		wantCheck(t, act, api.OK)
		wantPrint(t, []api.Act{act}, textTold{text: line + "\n"})
		wantPrint(t, []api.Act{act, rounds(), act}, textTold{text: line + "\nround\n" + line + "\n"})
		all += line + "\n"
		acts = append(acts, act)
	}
	wantPrint(t, acts, textTold{text: all})
	// No ops have two forms.
	wantPrint(t, []api.Act{{Kind: kindTick, Ops: []api.Op{}}}, textTold{text: "tick 0\n"})
}

// P25.3: 200 acts, 201 acts; the place of the first that may not be.
func TestPrintRefused(t *testing.T) {
	bad := []api.Act{{}, {Kind: 13}, ticks(2), ticks(-1), delivers(-1), delivers(mostNumber + 1), reads(0, ""), commits(0), commits(0, dels(9)...), {Kind: kindRound, Node: 1}, {Kind: kindTick, N: 1}, {Kind: kindFuse, T: 1}, {Kind: kindTick, Key: "a"}, {Kind: kindDrop, Ops: dels(1)}}
	for _, n := range []int{1, 2, 3, 199, 200, 201, 202, 1000} {
		l := slices.Repeat([]api.Act{rounds()}, n)
		want := textTold{text: strings.Repeat("round\n", n)}
		if n > mostActs {
			want = wrongAt(-1, api.ErrLong)
		}
		wantPrint(t, l, want)
		for i, a := range bad {
			at := i * (n - 1) / (len(bad) - 1)
			broken := slices.Clone(l)
			broken[at] = a
			want := wrongAt(at, api.ErrArg)
			if n > mostActs {
				want = wrongAt(-1, api.ErrLong)
			}
			wantPrint(t, broken, want)
			// A second one behind it changes nothing.
			broken[n-1] = api.Act{}
			wantPrint(t, broken, want)
		}
	}
}

// filled lists acts whose text has so many bytes.
func filled(size int) []api.Act {
	var l []api.Act
	full := commits(1, big()...)
	line := len(tellText(full)) + 1
	for size >= 2*line {
		l = append(l, full)
		size -= line
	}
	for size > 40 {
		l = append(l, reads(0, of(16)))
		size -= len("read 0 \n") + 16
	}
	for _, part := range []int{size / 2, size - size/2} {
		l = append(l, reads(1, of(part-len("read 0 \n"))))
	}
	return l
}

// P25.3: a text of 65,536 bytes, and of one more; the acts that may not be are told ahead of that.
func TestPrintLong(t *testing.T) {
	for _, size := range []int{1000, mostText - 1, mostText, mostText + 1, mostText + 2, 100000} {
		l := filled(size)
		text := ""
		for _, a := range l {
			text += tellText(a) + "\n"
		}
		if len(text) != size || len(l) > mostActs {
			t.Fatalf("a test's text has %d bytes, not %d; %d acts", len(text), size, len(l))
		}
		want := textTold{text: text}
		if size > mostText {
			want = wrongAt(-1, api.ErrLong)
		} else {
			wantParse(t, text, textTold{acts: l})
		}
		wantPrint(t, l, want)
		for _, at := range []int{0, len(l) / 2, len(l) - 1} {
			broken := slices.Clone(l)
			broken[at] = commits(2, big()...)
			wantPrint(t, broken, wrongAt(at, api.ErrArg))
		}
	}
	// The greatest text that 200 acts could have.
	l := slices.Repeat([]api.Act{commits(0, big()...)}, 200)
	wantPrint(t, l, wrongAt(-1, api.ErrLong))
	wantPrint(t, append(l, rounds()), wrongAt(-1, api.ErrLong))
	l[199] = api.Act{}
	wantPrint(t, l, wrongAt(199, api.ErrArg))
	wantPrint(t, append(l, rounds()), wrongAt(-1, api.ErrLong))
}

// The errors: errors.Is finds the Errno, errors.As the line and its reason; beside them nothing is told.
func TestErrors(t *testing.T) {
	_, lines := script.Parse("round\n\nfrob")
	_, many := script.Parse(strings.Repeat("round\n", 201))
	_, long := script.Parse(strings.Repeat("#", mostText+1))
	_, acts := script.Print([]api.Act{rounds(), rounds(), rounds(), {}})
	_, count := script.Print(make([]api.Act, 201))
	for _, x := range []struct {
		err  error
		want api.LineError
	}{
		{lines, api.LineError{Line: 2, Err: api.ErrLine}},
		{many, api.LineError{Line: 200, Err: api.ErrLong}},
		{long, api.LineError{Line: -1, Err: api.ErrLong}},
		{acts, api.LineError{Line: 3, Err: api.ErrArg}},
		{count, api.LineError{Line: -1, Err: api.ErrLong}},
	} {
		var wrong *api.LineError
		if !errors.As(x.err, &wrong) || *wrong != x.want {
			t.Errorf("errors.As: %v, not %v", wrong, x.want)
			continue
		}
		for _, e := range []api.Errno{api.OK, api.ErrNil, api.ErrArg, api.ErrLong, api.ErrBad, api.ErrLine} {
			if errors.Is(x.err, e) != (e == x.want.Err) {
				t.Errorf("errors.Is: %v, %d", x.err, e)
			}
		}
		var reason api.Errno
		if !errors.As(x.err, &reason) || reason != x.want.Err || x.err.Error() != x.want.Err.Error() {
			t.Errorf("the reason: %d, %q, not %d", reason, x.err.Error(), x.want.Err)
		}
	}
}

// Beside an error there is nothing, and beside what was read nil.
func TestNothingBesideAnError(t *testing.T) {
	for _, text := range []string{"round\nfrob", strings.Repeat("round\n", 201), strings.Repeat("#", mostText+1)} {
		if l, err := script.Parse(text); err == nil || len(l) != 0 {
			t.Errorf("rule 2: Parse of %s: %s, %v", short(text), short(l), err)
		}
	}
	for _, l := range [][]api.Act{{rounds(), {}}, make([]api.Act, 201), slices.Repeat([]api.Act{commits(0, big()...)}, 200)} {
		if text, err := script.Print(l); err == nil || text != "" {
			t.Errorf("rule 2: Print of %s: %s, %v", short(l), short(text), err)
		}
	}
	if l, err := script.Parse("round"); err != nil || len(l) != 1 {
		t.Errorf("P25.2: %v, %v", l, err)
	}
	if text, err := script.Print([]api.Act{rounds()}); err != nil || text != "round\n" {
		t.Errorf("P25.3: %q, %v", text, err)
	}
	for _, line := range []string{"", "# commit 0 put a 1", "commit 2 put a 1", "start 1 2 x", "start 1 2 3 4", "fuse 1 -7", "read 1 a b", "commit 1 put a 1 del", strings.Repeat(" ", mostText) + "tick 1"} {
		if a, there, _ := script.Line(line); there || !reflect.DeepEqual(a, api.Act{}) {
			t.Errorf("rule 2: Line of %s: %s, %v", short(line), short(a), there)
		}
	}
}
