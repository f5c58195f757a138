package letter_test

import (
	"bytes"
	"encoding/binary"
	"fmt"
	"math"
	"reflect"
	"slices"
	"strings"
	"testing"

	"lagleash/api"
	"lagleash/letter"
)

const most = 1048576 // the greatest epoch and number, as the document writes it

func put(key, value string) api.Op { return api.Op{Put: true, Key: key, Value: value} }
func del(key string) api.Op        { return api.Op{Key: key} }

func of(count int) string { return strings.Repeat("k", count) }

func with(epoch, number int, ops ...api.Op) api.Commit {
	return api.Commit{Epoch: epoch, Number: number, Ops: ops}
}

// one is a commit of a small batch.
func one(epoch, number int) api.Commit { return with(epoch, number, put("a", "1")) }

// run lists commits of the epochs, numbered from first on.
func run(first int, epochs ...int) []api.Commit {
	var l []api.Commit
	for at, epoch := range epochs {
		l = append(l, one(epoch, first+at))
	}
	return l
}

// begin lists starts, told as pairs of an epoch and a number.
func begin(pairs ...int) []api.Start {
	var l []api.Start
	for at := 0; at < len(pairs); at += 2 {
		l = append(l, api.Start{Epoch: pairs[at], First: pairs[at+1]})
	}
	return l
}

func hello(epoch int, role api.Role, end int, l []api.Start) api.Message {
	return api.Message{Kind: 1, Epoch: epoch, Role: role, End: end, Starts: l}
}

func ship(epoch, from, prev int, l ...api.Commit) api.Message {
	return api.Message{Kind: 2, Epoch: epoch, From: from, Prev: prev, Commits: l}
}

func ack(epoch, end int) api.Message { return api.Message{Kind: 3, Epoch: epoch, End: end} }

// alikeCommits and alike compare field by field, without the calls that are tested; an empty list is the same as nil.
func alikeCommits(a, b api.Commit) bool {
	return a.Epoch == b.Epoch && a.Number == b.Number && slices.Equal(a.Ops, b.Ops)
}

func alike(a, b api.Message) bool {
	return a.Kind == b.Kind && a.Epoch == b.Epoch && a.Role == b.Role && a.End == b.End && slices.Equal(a.Starts, b.Starts) &&
		a.From == b.From && a.Prev == b.Prev && slices.EqualFunc(a.Commits, b.Commits, alikeCommits)
}

// copied answers m with lists of their own.
func copied(m api.Message) api.Message {
	m.Starts = slices.Clone(m.Starts)
	m.Commits = slices.Clone(m.Commits)
	for at := range m.Commits {
		m.Commits[at].Ops = slices.Clone(m.Commits[at].Ops)
	}
	return m
}

// hellos lists hellos whose fields are the least and the greatest that they may be, and what lies just within.
func hellos() []api.Message {
	var l []api.Message
	for _, role := range []api.Role{1, 2, 3} {
		for _, epoch := range []int{1, 2, 127, 128, most - 1, most} {
			l = append(l, hello(epoch, role, 0, nil), hello(epoch, role, 0, []api.Start{}),
				hello(epoch, role, 1, begin(1, 1)), hello(epoch, role, most, begin(1, 1)), hello(epoch, role, most-1, begin(1, 1)),
				hello(epoch, role, 1, begin(epoch, 1)), hello(epoch, role, 300, begin(epoch, 1)), hello(epoch, role, most, begin(epoch, 1)))
			if epoch > 1 {
				l = append(l, hello(epoch, role, 2, begin(1, 1, epoch, 2)), hello(epoch, role, 200, begin(1, 1, epoch, 130)), hello(epoch, role, 200, begin(epoch-1, 1, epoch, 200)),
					hello(epoch, role, most, begin(1, 1, epoch, most)), hello(epoch, role, most, begin(1, 1, epoch, 2)))
			}
			if epoch > 2 {
				l = append(l, hello(epoch, role, 3, begin(1, 1, 2, 2, epoch, 3)), hello(epoch, role, most, begin(1, 1, epoch-1, most-1, epoch, most)),
					hello(epoch, role, 9, begin(1, 1, 2, 4)))
			}
		}
	}
	return l
}

// bigBatch is the greatest batch there is.
func bigBatch() []api.Op {
	var l []api.Op
	for at := range 8 {
		l = append(l, put(string(rune('a'+at))+of(15), of(32)))
	}
	return l
}

// ships lists ships whose fields are the least and the greatest that they may be, and what lies just within.
func ships() []api.Message {
	var l []api.Message
	for _, epoch := range []int{1, 2, 127, 128, most - 1, most} {
		for count := range 5 {
			l = append(l, ship(epoch, 1, 0, run(1, slices.Repeat([]int{1}, count)...)...), ship(epoch, 1, 0, run(1, slices.Repeat([]int{epoch}, count)...)...))
			for _, prev := range []int{1, epoch, max(1, epoch-1)} {
				for _, from := range []int{2, 3, 127, 128, 300, most - count, most - count + 1} {
					if from <= most {
						l = append(l, ship(epoch, from, prev, run(from, slices.Repeat([]int{prev}, count)...)...), ship(epoch, from, prev, run(from, slices.Repeat([]int{epoch}, count)...)...))
					}
				}
			}
		}
	}
	return append(l,
		ship(9, 1, 0, run(1, 2, 4, 4, 9)...), ship(9, 7, 2, run(7, 2, 3, 8, 8)...), ship(9, 1, 0, []api.Commit{}...),
		ship(3, 5, 2, with(2, 5, put("ab", "1"), put("abc", ""), del("ab")), with(3, 6, del("\x00\xff"))),
		ship(3, 5, 2, with(2, 5, bigBatch()...), with(2, 6, bigBatch()...), with(3, 7, bigBatch()...), with(3, 8, bigBatch()...)),
		ship(3, 5, 2, with(2, 5, slices.Repeat([]api.Op{del("k")}, 8)...)),
	)
}

// acks lists acks whose fields are the least and the greatest that they may be, and what lies just within.
func acks() []api.Message {
	var l []api.Message
	for _, epoch := range []int{1, 2, 127, 128, most - 1, most} {
		for _, end := range []int{0, 1, 127, 128, 16383, 16384, most - 1, most} {
			l = append(l, ack(epoch, end))
		}
	}
	return l
}

// allGood lists messages of each row that may be.
func allGood() []api.Message { return slices.Concat(hellos(), ships(), acks()) }

// far lists numbers that are no field's, many of which would be one, cut down to fewer bits.
func far() []int {
	return []int{math.MinInt, math.MinInt + 1, -1 << 32, -1<<32 + 1, -2, -1, most + 1, most + 2, 1 << 31, 1 << 32, 1<<32 + 1, 1<<62 + 1, math.MaxInt - 1, math.MaxInt}
}

// strange lists what a message has, of its own, that it may not have: of each kind, by what is wrong.
func strange() map[string][]api.Message {
	five := run(1, 1, 1, 1, 1, 1)
	all := map[string][]api.Message{
		"nothing in it":                     {{}},
		"a kind":                            {{Kind: 0, Epoch: 1}, {Kind: 4, Epoch: 1}, {Kind: -1, Epoch: 1}, {Kind: 4, Epoch: 1, End: 1}, {Kind: 0, Epoch: 1, From: 1}, {Kind: 1<<32 + 3, Epoch: 1}, {Kind: 259, Epoch: 1}},
		"an epoch":                          {hello(0, 1, 0, nil), ship(0, 1, 0), ack(0, 0), hello(most+1, 1, 0, nil), ship(most+1, 1, 0), ack(most+1, 0), hello(most+1, 1, 1, begin(1, 1)), ship(most+1, 2, 1), ack(-1, 0)},
		"a role":                            {hello(1, 0, 0, nil), hello(1, 4, 0, nil), hello(1, 255, 0, nil), hello(2, 0, 1, begin(1, 1)), hello(2, 4, 1, begin(1, 1))},
		"an end of a hello":                 {hello(1, 1, -1, nil), hello(1, 1, most+1, begin(1, 1)), hello(1, 1, 1, nil), hello(1, 1, 0, begin(1, 1)), hello(1, 1, -1, begin(1, 1)), hello(1, 1, most+1, nil)},
		"starts that are no log's":          {hello(9, 1, 5, begin(1, 2)), hello(9, 1, 5, begin(1, 0)), hello(9, 1, 5, begin(0, 1)), hello(9, 1, 5, begin(1, 1, 1, 3)), hello(9, 1, 5, begin(2, 1, 1, 3)), hello(9, 1, 5, begin(1, 1, 2, 1)), hello(9, 1, 5, begin(1, 1, 2, 6)), hello(9, 1, 5, begin(1, 1, 2, 4, 3, 3)), hello(9, 1, 5, begin(-1, 1)), hello(9, 1, 5, begin(1, -1)), hello(9, 1, 5, begin(1, 1, 3, 3, 2, 4))},
		"starts above the message's epoch":  {hello(1, 1, 1, begin(2, 1)), hello(2, 3, 5, begin(1, 1, 3, 2)), hello(2, 2, 5, begin(1, 1, 2, 2, 3, 3)), hello(most-1, 1, 1, begin(most, 1)), hello(most, 1, 1, begin(most+1, 1)), hello(127, 1, 4, begin(128, 1))},
		"where a ship begins":               {ship(1, 0, 0), ship(1, 0, 1), ship(1, -1, 1), ship(1, most+1, 1), ship(1, most+1, 0), ship(most, most+1, most)},
		"the epoch ahead":                   {ship(1, 2, -1), ship(1, 1, -1), ship(1, 2, 2), ship(5, 2, 6), ship(5, most, 6), ship(most, 2, most+1), ship(127, 3, 128)},
		"an epoch ahead of the first":       {ship(1, 1, 1), ship(5, 1, 1), ship(5, 1, 5), ship(1, 1, 1, one(1, 1))},
		"no epoch ahead of a later one":     {ship(1, 2, 0), ship(5, 3, 0), ship(1, most, 0), ship(1, 2, 0, one(1, 2))},
		"too many commits":                  {ship(1, 1, 0, five...), ship(1, 1, 0, run(1, 1, 1, 1, 1, 1, 1, 1, 1)...), ship(3, 2, 1, run(2, 1, 2, 2, 3, 3)...), ship(1, 1, 0, run(1, slices.Repeat([]int{1}, 256)...)...)},
		"commits that do not follow":        {ship(1, 1, 0, one(1, 2)), ship(1, 2, 1, one(1, 1)), ship(1, 2, 1, one(1, 3)), ship(2, 2, 2, one(1, 2)), ship(2, 1, 0, one(1, 1), one(1, 3)), ship(2, 1, 0, one(1, 1), one(1, 1)), ship(2, 1, 0, one(2, 1), one(1, 2)), ship(2, 1, 0, run(1, 1, 2, 2, 1)...), ship(2, 1, 0, one(1, 1), one(1, 2), one(1, 3), one(1, 5))},
		"commits behind the greatest":       {ship(1, most, 1, run(most, 1, 1)...), ship(1, most-2, 1, run(most-2, 1, 1, 1, 1)...)},
		"a commit of a greater epoch":       {ship(1, 1, 0, one(2, 1)), ship(2, 2, 1, run(2, 1, 2, 3)...), ship(2, 2, 1, run(2, 1, 2, 2, 3)...), ship(most-1, 1, 0, one(most, 1)), ship(most, 1, 0, one(most+1, 1)), ship(3, 2, 2, run(2, 4, 4)...)},
		"an end of an ack":                  {ack(1, -1), ack(1, most+1), ack(most, -1), ack(most, most+1)},
		"several things at once":            {{Kind: 9, Epoch: -1, Role: 9, End: -1, Starts: begin(0, 0), From: -1, Prev: -1, Commits: make([]api.Commit, 6)}, ship(0, 0, 0, make([]api.Commit, 5)...), hello(0, 0, -1, begin(0, 0))},
		"fields that would wrap to be fine": {ship(1, 1<<32+1, 0), ship(1, 1<<32+2, 1), ack(1<<32+1, 0), ack(1, 1<<32), hello(1<<32+1, 1, 0, nil), hello(1, 1, 1<<32, nil), ship(2, 2, 1<<32+1)},
	}
	for _, bad := range badBatches() {
		for at := range 4 {
			l := run(1, 1, 1, 1, 1)
			l[at].Ops = bad
			all["a commit that may not be"] = append(all["a commit that may not be"], ship(1, 1, 0, l...), ship(1, 1, 0, l[:at+1]...))
		}
	}
	for _, m := range []api.Message{hello(1, 1, 0, nil), hello(2, 2, 4, begin(1, 1)), ship(1, 1, 0), ship(3, 4, 2, run(4, 2, 3)...), ack(1, 0), ack(most, most)} {
		for _, x := range far() {
			all["a number far out"] = append(all["a number far out"], farOut(m, x)...)
		}
	}
	return all
}

// farOut lists m with each of its own numbers being x.
func farOut(m api.Message, x int) []api.Message {
	var l []api.Message
	set := func(change func(m *api.Message)) {
		other := copied(m)
		change(&other)
		l = append(l, other)
	}
	set(func(m *api.Message) { m.Kind = x })
	set(func(m *api.Message) { m.Epoch = x })
	if m.Kind != 2 {
		set(func(m *api.Message) { m.End = x })
	} else {
		set(func(m *api.Message) { m.From = x })
		set(func(m *api.Message) { m.Prev = x })
	}
	for at := range m.Starts {
		set(func(m *api.Message) { m.Starts[at].Epoch = x })
		set(func(m *api.Message) { m.Starts[at].First = x })
	}
	for at := range m.Commits {
		set(func(m *api.Message) { m.Commits[at].Epoch = x })
		set(func(m *api.Message) { m.Commits[at].Number = x })
	}
	return l
}

// badBatches lists what is no commit's ops, and could be written all the same.
func badBatches() [][]api.Op {
	return [][]api.Op{
		nil, {}, slices.Repeat([]api.Op{del("a")}, 9), {put("", "1")}, {del("")}, {put(of(17), "1")}, {del(of(17))}, {put("a", of(33))},
		{put("a", "1"), {}}, slices.Concat(bigBatch()[:7], []api.Op{put("z", of(33))}),
	}
}

// strangers lists messages with one field that their kind has not, or with several, and those with a delete that has a value: no bytes tell these.
func strangers() []api.Message {
	var l []api.Message
	for _, good := range []api.Message{hello(1, 1, 0, nil), hello(2, 3, 4, begin(1, 1, 2, 2)), ship(1, 1, 0), ship(3, 4, 2, run(4, 2, 3)...), ack(1, 0), ack(5, 9)} {
		add := func(kinds string, change func(m *api.Message)) {
			if strings.Contains(kinds, string(rune('0'+good.Kind))) {
				other := copied(good)
				change(&other)
				l = append(l, other)
			}
		}
		for _, x := range []int{1, 2, most, -1, most + 1, 256, 1 << 32, math.MinInt, math.MaxInt} {
			add("13", func(m *api.Message) { m.From = x })
			add("13", func(m *api.Message) { m.Prev = x })
			add("13", func(m *api.Message) { m.From, m.Prev = x, x })
			add("2", func(m *api.Message) { m.End = x })
		}
		for _, role := range []api.Role{1, 2, 3, 4, 255} {
			add("23", func(m *api.Message) { m.Role = role })
		}
		for _, starts := range [][]api.Start{begin(1, 1), begin(0, 0), begin(1, 1, 2, 2), make([]api.Start, 3)} {
			add("23", func(m *api.Message) { m.Starts = starts })
			add("23", func(m *api.Message) { m.Starts, m.End = starts, 2 })
			add("2", func(m *api.Message) { m.Starts, m.End, m.Role = starts, 2, 1 })
		}
		for _, commits := range [][]api.Commit{run(1, 1), run(1, 1, 1), make([]api.Commit, 1), make([]api.Commit, 5)} {
			add("13", func(m *api.Message) { m.Commits = commits })
			add("13", func(m *api.Message) { m.Commits, m.From = commits, 1 })
		}
	}
	for at := range 4 {
		ops := []api.Op{put("a", "1"), del("b"), {Key: "a", Value: "1"}}
		commits := run(1, 1, 1, 1, 1)
		commits[at].Ops = ops
		l = append(l, ship(1, 1, 0, commits...), ship(1, at+2, 1, with(1, at+2, ops[2])))
	}
	// An ack of a log with starts is a hello, but for its kind; so the other way round.
	return append(l, api.Message{Kind: 3, Epoch: 2, End: 1, Starts: begin(1, 1)}, api.Message{Kind: 2, Epoch: 2, Role: 1, End: 1, Starts: begin(1, 1)}, api.Message{Kind: 1, Epoch: 1, From: 1}, api.Message{Kind: 3, Epoch: 1, From: 1, Commits: run(1, 1)})
}

// allWrong lists messages that may not be.
func allWrong() []api.Message {
	l := strangers()
	for _, list := range strange() {
		l = append(l, list...)
	}
	return l
}

// A second telling: which messages may be, and their bytes by the library, not by the program.

func within(x, least, greatest int) bool { return x >= least && x <= greatest }

func isLog(l []api.Start, end int) bool {
	if !within(end, 0, most) || (len(l) == 0) != (end == 0) {
		return false
	}
	for at, s := range l {
		if !within(s.Epoch, 1, most) || !within(s.First, 1, end) || at == 0 && s.First != 1 {
			return false
		}
		if at > 0 && (s.Epoch <= l[at-1].Epoch || s.First <= l[at-1].First) {
			return false
		}
	}
	return true
}

func isBatch(l []api.Op) bool {
	return within(len(l), 1, 8) && !slices.ContainsFunc(l, func(o api.Op) bool {
		return !within(len(o.Key), 1, 16) || len(o.Value) > 32 || !o.Put && o.Value != ""
	})
}

func areShipped(m api.Message) bool {
	epoch := m.Prev
	for at, c := range m.Commits {
		if c.Number != m.From+at || c.Number > most || c.Epoch < max(1, epoch) || c.Epoch > m.Epoch || !isBatch(c.Ops) {
			return false
		}
		epoch = c.Epoch
	}
	return len(m.Commits) <= 4
}

func mayBe(m api.Message) bool {
	if !within(m.Epoch, 1, most) {
		return false
	}
	switch m.Kind {
	case 1:
		return within(int(m.Role), 1, 3) && isLog(m.Starts, m.End) && !slices.ContainsFunc(m.Starts, func(s api.Start) bool { return s.Epoch > m.Epoch }) &&
			m.From == 0 && m.Prev == 0 && len(m.Commits) == 0
	case 2:
		first := m.From == 1 && m.Prev == 0 || within(m.From, 2, most) && within(m.Prev, 1, m.Epoch)
		return first && areShipped(m) && m.Role == 0 && m.End == 0 && len(m.Starts) == 0
	case 3:
		return within(m.End, 0, most) && m.Role == 0 && m.From == 0 && m.Prev == 0 && len(m.Starts) == 0 && len(m.Commits) == 0
	}
	return false
}

// written answers numbers as the document has them written.
func written(list ...int) []byte {
	var b []byte
	for _, x := range list {
		b = binary.AppendUvarint(b, uint64(x))
	}
	return b
}

func inCommon(a, b string) int {
	n := 0
	for n < len(a) && n < len(b) && a[n] == b[n] {
		n++
	}
	return n
}

func commitBytes(c api.Commit) []byte {
	b := written(c.Epoch, c.Number, len(c.Ops))
	ahead := ""
	for _, o := range c.Ops {
		n := inCommon(ahead, o.Key)
		kind := 0
		if o.Put {
			kind = 1
		}
		b = append(append(b, written(kind, n, len(o.Key)-n)...), o.Key[n:]...)
		if o.Put {
			b = append(append(b, written(len(o.Value))...), o.Value...)
		}
		ahead = o.Key
	}
	return b
}

// part is a number of a message's bytes, or bytes that stand in it as they are.
type part struct {
	number int
	raw    []byte
}

// partsOf lists what stands in a message's bytes; of an unknown kind the kind and the epoch.
func partsOf(m api.Message) []part {
	var l []part
	add := func(numbers ...int) {
		for _, x := range numbers {
			l = append(l, part{number: x})
		}
	}
	add(m.Kind, m.Epoch)
	switch m.Kind {
	case 1:
		add(int(m.Role), m.End, len(m.Starts))
		for _, s := range m.Starts {
			add(s.Epoch, s.First)
		}
	case 2:
		add(m.From, m.Prev, len(m.Commits))
		for _, c := range m.Commits {
			raw := commitBytes(c)
			add(len(raw))
			l = append(l, part{raw: raw})
		}
	case 3:
		add(m.End)
	}
	return l
}

func joined(l []part) []byte {
	var b []byte
	for _, p := range l {
		if p.raw != nil {
			b = append(b, p.raw...)
		} else {
			b = append(b, written(p.number)...)
		}
	}
	return b
}

func bytesOf(m api.Message) []byte { return joined(partsOf(m)) }

// loose reads what bytes seem to be: numbers that are written longer than they need be, too.
type loose struct {
	rest []byte
	bad  bool
}

func (l *loose) number() int {
	x, n := binary.Uvarint(l.rest)
	if n <= 0 || x > math.MaxInt {
		l.bad = true
		return 0
	}
	l.rest = l.rest[n:]
	return int(x)
}

func (l *loose) text() []byte {
	n := l.number()
	if n > len(l.rest) {
		l.bad = true
		return nil
	}
	text := l.rest[:n]
	l.rest = l.rest[n:]
	return text
}

func (l *loose) commit() api.Commit {
	c := api.Commit{Epoch: l.number(), Number: l.number()}
	ahead := ""
	for left := l.number(); left > 0 && !l.bad; left-- {
		o := api.Op{Put: l.number() == 1}
		o.Key = ahead[:min(len(ahead), l.number())] + string(l.text())
		if o.Put {
			o.Value = string(l.text())
		}
		ahead = o.Key
		c.Ops = append(c.Ops, o)
	}
	return c
}

func (l *loose) message() api.Message {
	m := api.Message{Kind: l.number(), Epoch: l.number()}
	switch m.Kind {
	case 1:
		m.Role, m.End = api.Role(l.number()), l.number()
		for left := l.number(); left > 0 && !l.bad; left-- {
			m.Starts = append(m.Starts, api.Start{Epoch: l.number(), First: l.number()})
		}
	case 2:
		m.From, m.Prev = l.number(), l.number()
		for left := l.number(); left > 0 && !l.bad; left-- {
			inner := loose{rest: l.text()}
			m.Commits = append(m.Commits, inner.commit())
			l.bad = l.bad || inner.bad
		}
	case 3:
		m.End = l.number()
	}
	return m
}

// decodeAnew answers the message that may be and whose bytes b is: what b seems to be counts just if it is written so.
func decodeAnew(b []byte) (api.Message, bool) {
	l := loose{rest: b}
	m := l.message()
	if l.bad || !mayBe(m) || !bytes.Equal(bytesOf(m), b) {
		return api.Message{}, false
	}
	return m, true
}

// short tells bytes, at most so many as can be looked at.
func short(b []byte) string {
	if len(b) <= 60 {
		return fmt.Sprint(b)
	}
	return fmt.Sprintf("%d bytes: %v ..", len(b), b[:60])
}

// What is asked of the calls.

func wantCheck(t *testing.T, m api.Message, e api.Errno) {
	t.Helper()
	if now := letter.Check(m); now != e {
		t.Errorf("Check(%+v) = %d; want %d", m, now, e)
	}
}

func wantEncode(t *testing.T, m api.Message, want []byte) {
	t.Helper()
	if b, e := letter.Encode(m); !bytes.Equal(b, want) || e != api.OK {
		t.Errorf("Encode(%+v) = %s, %d; want %s, OK", m, short(b), e, short(want))
	}
}

func wantNoBytes(t *testing.T, m api.Message) {
	t.Helper()
	if b, e := letter.Encode(m); b != nil || e != api.ErrArg {
		t.Errorf("Encode(%+v) = %s, %d; want none, ErrArg", m, short(b), e)
	}
}

func wantDecode(t *testing.T, b []byte, want api.Message) {
	t.Helper()
	if m, e := letter.Decode(b); !alike(m, want) || e != api.OK {
		t.Errorf("Decode(%s) = %+v, %d; want %+v, OK", short(b), m, e, want)
	}
}

func wantBad(t *testing.T, b []byte) {
	t.Helper()
	if m, e := letter.Decode(b); !reflect.DeepEqual(m, api.Message{}) || e != api.ErrBad {
		t.Errorf("Decode(%s) = %+v, %d; want nothing, ErrBad", short(b), m, e)
	}
}

// wantAsTold asks what the second telling says of bytes.
func wantAsTold(t *testing.T, b []byte) {
	t.Helper()
	if m, ok := decodeAnew(b); ok {
		wantDecode(t, b, m)
		wantEncode(t, m, b)
	} else {
		wantBad(t, b)
	}
}

func wantSame(t *testing.T, a, b api.Message, want bool) {
	t.Helper()
	if letter.Same(a, b) != want || letter.Same(b, a) != want {
		t.Errorf("Same(%+v, %+v) = %v, the other way round %v; want %v", a, b, letter.Same(a, b), letter.Same(b, a), want)
	}
}

// The chapter's examples.
func TestExamples(t *testing.T) {
	wantEncode(t, api.Message{Kind: api.Ack, Epoch: 2, End: 7}, []byte{3, 2, 7})
	wantEncode(t, api.Message{Kind: api.Hello, Epoch: 2, Role: api.Replica, End: 3, Starts: []api.Start{{Epoch: 1, First: 1}, {Epoch: 2, First: 3}}}, []byte{1, 2, 2, 3, 2, 1, 1, 2, 3})
	wantEncode(t, api.Message{Kind: api.Ship, Epoch: 1, From: 1}, []byte{2, 1, 1, 0, 0})
	wantCheck(t, api.Message{Kind: api.Ship, Epoch: 1, From: 1, Prev: 1}, api.ErrArg)
	wantCheck(t, api.Message{Kind: api.Ack, Epoch: 1, Role: api.Replica}, api.ErrArg)
	wantCheck(t, api.Message{Kind: api.Ship, Epoch: 1, From: 1, Commits: run(1, 1, 1, 1, 1, 1)}, api.ErrArg)
	for _, b := range [][]byte{{3, 2}, {4, 1}, {3, 2, 7, 0}} {
		wantBad(t, b)
	}
}

// P11.1

func TestCheckOfEachRowAtItsEdges(t *testing.T) {
	for _, m := range allGood() {
		wantCheck(t, m, api.OK)
	}
	for _, m := range []api.Message{
		{Kind: api.Hello, Epoch: 1, Role: api.Primary}, {Kind: api.Hello, Epoch: 1, Role: api.Replica}, {Kind: api.Hello, Epoch: 1, Role: api.Deposed}, {Kind: api.Hello, Epoch: 1 << 20, Role: api.Deposed},
		{Kind: api.Hello, Epoch: 1, Role: api.Primary, End: 1 << 20, Starts: []api.Start{{Epoch: 1, First: 1}}},
		{Kind: api.Hello, Epoch: 1 << 20, Role: api.Primary, End: 1 << 20, Starts: []api.Start{{Epoch: 1, First: 1}, {Epoch: 1 << 20, First: 1 << 20}}},
		{Kind: api.Ship, Epoch: 1, From: 1}, {Kind: api.Ship, Epoch: 1 << 20, From: 1}, {Kind: api.Ship, Epoch: 1, From: 2, Prev: 1}, {Kind: api.Ship, Epoch: 1 << 20, From: 1 << 20, Prev: 1 << 20}, {Kind: api.Ship, Epoch: 1, From: 1, Commits: run(1, 1, 1, 1, 1)},
		{Kind: api.Ship, Epoch: 1 << 20, From: 1 << 20, Prev: 1, Commits: run(1<<20, 1<<20)},
		{Kind: api.Ack, Epoch: 1}, {Kind: api.Ack, Epoch: 1 << 20}, {Kind: api.Ack, Epoch: 1, End: 1 << 20},
	} {
		wantCheck(t, m, api.OK)
	}
}

func TestCheckOfWhatMayNotBe(t *testing.T) {
	for what, list := range strange() {
		t.Run(what, func(t *testing.T) {
			for _, m := range list {
				wantCheck(t, m, api.ErrArg)
			}
		})
	}
}

func TestCheckOfFieldsThatAKindHasNot(t *testing.T) {
	for _, m := range strangers() {
		wantCheck(t, m, api.ErrArg)
	}
}

// Lists that a kind has not may be empty all the same: nil and empty are the same.
func TestCheckOfEmptyLists(t *testing.T) {
	for _, m := range allGood() {
		if m.Kind != 1 {
			m.Starts = []api.Start{}
			wantCheck(t, m, api.OK)
			m.Starts = begin(1, 1)[:0]
		}
		if m.Kind != 2 {
			m.Commits = []api.Commit{}
			wantCheck(t, m, api.OK)
			m.Commits = make([]api.Commit, 5)[:0]
		}
		wantCheck(t, m, api.OK)
		wantEncode(t, m, bytesOf(m))
	}
	for _, m := range []api.Message{hello(1, 1, 0, []api.Start{}), ship(1, 1, 0, []api.Commit{}...)} {
		wantCheck(t, m, api.OK)
	}
}

// Both tellings of what may be, over what each field may be and may not be, whatever the others are.
func TestCheckOfAllFieldsTogether(t *testing.T) {
	starts := [][]api.Start{nil, begin(1, 1), begin(2, 1), begin(1, 1, 2, 2), begin(1, 2), begin(most, 1)}
	commits := [][]api.Commit{nil, run(1, 1), run(2, 1, 2), run(2, most), {{}}, run(1, 1, 1, 1, 1, 1), run(most, 1)}
	count := 0
	for _, kind := range []int{0, 1, 2, 3, 4} {
		for _, epoch := range []int{0, 1, 2, most, most + 1} {
			for _, role := range []api.Role{0, 1, 3, 4} {
				for _, end := range []int{-1, 0, 1, 2, most, most + 1} {
					for _, from := range []int{-1, 0, 1, 2, most, most + 1} {
						for _, prev := range []int{-1, 0, 1, 2, most, most + 1} {
							for _, s := range starts {
								for _, c := range commits {
									m := api.Message{Kind: kind, Epoch: epoch, Role: role, End: end, Starts: s, From: from, Prev: prev, Commits: c}
									want := api.ErrArg
									if mayBe(m) {
										want = api.OK
										count++
									}
									if letter.Check(m) != want {
										t.Fatalf("Check(%+v) = %d; want %d", m, letter.Check(m), want)
									}
								}
							}
						}
					}
				}
			}
		}
	}
	if count < 60 {
		t.Errorf("just %d messages that may be", count)
	}
}

func TestCheckOfEachRole(t *testing.T) {
	for role := range 256 {
		want := api.ErrArg
		if role >= 1 && role <= 3 {
			want = api.OK
		}
		wantCheck(t, hello(3, api.Role(role), 0, nil), want)
		wantCheck(t, hello(3, api.Role(role), 5, begin(1, 1, 3, 4)), want)
	}
}

// oneUnlike lists m with one thing changed: each field, an element of each list, a list's length.
func oneUnlike(m api.Message) []api.Message {
	var l []api.Message
	set := func(change func(m *api.Message)) {
		other := copied(m)
		change(&other)
		l = append(l, other)
	}
	for _, by := range []int{1, -1, 256, 1 << 32, math.MinInt} {
		set(func(m *api.Message) { m.Kind += by })
		set(func(m *api.Message) { m.Epoch += by })
		set(func(m *api.Message) { m.End += by })
		set(func(m *api.Message) { m.From += by })
		set(func(m *api.Message) { m.Prev += by })
		for at := range m.Starts {
			set(func(m *api.Message) { m.Starts[at].Epoch += by })
			set(func(m *api.Message) { m.Starts[at].First += by })
		}
		for at := range m.Commits {
			set(func(m *api.Message) { m.Commits[at].Epoch += by })
			set(func(m *api.Message) { m.Commits[at].Number += by })
		}
	}
	set(func(m *api.Message) { m.Role++ })
	set(func(m *api.Message) { m.Role += 128 })
	set(func(m *api.Message) { m.Starts = append(m.Starts, api.Start{}) })
	set(func(m *api.Message) { m.Commits = append(m.Commits, api.Commit{}) })
	if n := len(m.Starts); n > 0 {
		set(func(m *api.Message) { m.Starts = m.Starts[1:] })
		set(func(m *api.Message) { m.Starts = m.Starts[:n-1] })
		set(func(m *api.Message) { m.Starts = nil })
	}
	if n := len(m.Commits); n > 0 {
		set(func(m *api.Message) { m.Commits = m.Commits[1:] })
		set(func(m *api.Message) { m.Commits = m.Commits[:n-1] })
		set(func(m *api.Message) { m.Commits = nil })
	}
	for at, c := range m.Commits {
		set(func(m *api.Message) { m.Commits[at].Ops = append(m.Commits[at].Ops, put("z", "9")) })
		if len(c.Ops) > 0 {
			set(func(m *api.Message) { m.Commits[at].Ops = m.Commits[at].Ops[1:] })
		}
		for i := range c.Ops {
			set(func(m *api.Message) { m.Commits[at].Ops[i].Put = !m.Commits[at].Ops[i].Put })
			set(func(m *api.Message) { m.Commits[at].Ops[i].Key += "z" })
			set(func(m *api.Message) { m.Commits[at].Ops[i].Value += "z" })
		}
	}
	return l
}

// mixedUp lists messages that may be, and some that may not be, no two of which are the same.
func mixedUp() []api.Message {
	return []api.Message{
		{}, hello(2, 2, 3, begin(1, 1, 2, 3)), hello(1, 1, 0, nil), ship(1, 1, 0), ship(3, 5, 2, with(2, 5, put("ab", "1"), put("abc", ""), del("ab")), with(3, 6, del("b"))), ship(1, 1, 0, run(1, 1, 1, 1, 1)...), ack(1, 0), ack(2, 7),
		{Kind: -1, Epoch: -2, Role: 9, End: -3, Starts: begin(0, 0, -1, -1), From: -4, Prev: -5, Commits: []api.Commit{{}, with(0, 0, api.Op{Key: "", Value: "v"})}},
		{Kind: 1, Epoch: 2, Role: 2, End: 3, Starts: begin(1, 1, 2, 3), From: 1, Prev: 1, Commits: run(1, 1, 1)},
	}
}

func TestSameOfACopy(t *testing.T) {
	for _, m := range slices.Concat(allGood(), allWrong(), mixedUp()) {
		wantSame(t, m, m, true)
		wantSame(t, m, copied(m), true)
	}
	wantSame(t, api.Message{}, api.Message{Starts: []api.Start{}, Commits: []api.Commit{}}, true)
	wantSame(t, ship(1, 1, 0, api.Commit{}), ship(1, 1, 0, api.Commit{Ops: []api.Op{}}), true)
}

func TestSameOfWhatDiffersInOneThing(t *testing.T) {
	for _, m := range slices.Concat(mixedUp(), hellos()[:20], ships()[:20], acks()[:4]) {
		for _, other := range oneUnlike(m) {
			if alike(m, other) {
				t.Fatalf("%+v and %+v are alike", m, other)
			}
			wantSame(t, m, other, false)
		}
	}
}

func TestSameOfUnlikeMessages(t *testing.T) {
	all := mixedUp()
	for i, a := range all {
		for j, b := range all {
			wantSame(t, a, b, i == j)
		}
	}
	// The same elements, turned about.
	wantSame(t, api.Message{Starts: begin(1, 1, 2, 2)}, api.Message{Starts: begin(2, 2, 1, 1)}, false)
	wantSame(t, api.Message{Starts: begin(1, 2)}, api.Message{Starts: begin(2, 1)}, false)
	wantSame(t, api.Message{Commits: run(1, 1, 1)}, api.Message{Commits: []api.Commit{one(1, 2), one(1, 1)}}, false)
	wantSame(t, api.Message{From: 1}, api.Message{Prev: 1}, false)
	wantSame(t, api.Message{End: 1}, api.Message{From: 1}, false)
}

// P11.2

func TestEncodeOfEachRow(t *testing.T) {
	for _, c := range []struct {
		m api.Message
		b []byte
	}{
		{hello(1, 1, 0, nil), []byte{1, 1, 1, 0, 0}},
		{hello(127, 2, 127, begin(127, 1)), []byte{1, 127, 2, 127, 1, 127, 1}},
		{hello(128, 3, 128, begin(128, 1)), []byte{1, 128, 1, 3, 128, 1, 1, 128, 1, 1}},
		{hello(300, 1, 20000, begin(1, 1, 200, 150, 300, 16384)), []byte{1, 172, 2, 1, 160, 156, 1, 3, 1, 1, 200, 1, 150, 1, 172, 2, 128, 128, 1}},
		{hello(most, 3, most, begin(most-1, 1, most, most)), []byte{1, 128, 128, 64, 3, 128, 128, 64, 2, 255, 255, 63, 1, 128, 128, 64, 128, 128, 64}},
		{ship(1, 1, 0), []byte{2, 1, 1, 0, 0}},
		{ship(most, most, most), []byte{2, 128, 128, 64, 128, 128, 64, 128, 128, 64, 0}},
		{ship(300, 200, 150), []byte{2, 172, 2, 200, 1, 150, 1, 0}},
		{ship(3, 2, 1, one(1, 2)), []byte{2, 3, 2, 1, 1, 9, 1, 2, 1, 1, 0, 1, 97, 1, 49}},
		{ship(3, 1, 0, with(1, 1, del("a")), with(3, 2, put("b", ""))), []byte{2, 3, 1, 0, 2, 7, 1, 1, 1, 0, 0, 1, 97, 8, 3, 2, 1, 1, 0, 1, 98, 0}},
		{ship(300, 128, 1, with(1, 128, put("ab", "1"), del("abc")), with(300, 129, del("a"))), []byte{2, 172, 2, 128, 1, 1, 2, 15, 1, 128, 1, 2, 1, 0, 2, 97, 98, 1, 49, 0, 2, 1, 99, 9, 172, 2, 129, 1, 1, 0, 0, 1, 97}},
		{ship(1, 1, 0, run(1, 1, 1, 1, 1)...), []byte{2, 1, 1, 0, 4, 9, 1, 1, 1, 1, 0, 1, 97, 1, 49, 9, 1, 2, 1, 1, 0, 1, 97, 1, 49, 9, 1, 3, 1, 1, 0, 1, 97, 1, 49, 9, 1, 4, 1, 1, 0, 1, 97, 1, 49}},
		{ack(1, 0), []byte{3, 1, 0}},
		{ack(127, 127), []byte{3, 127, 127}},
		{ack(128, 300), []byte{3, 128, 1, 172, 2}},
		{ack(most, most), []byte{3, 128, 128, 64, 128, 128, 64}},
	} {
		wantEncode(t, c.m, c.b)
		wantDecode(t, c.b, c.m)
		if told := bytesOf(c.m); !bytes.Equal(told, c.b) {
			t.Errorf("the second telling has %v for %+v", told, c.m)
		}
	}
}

// A commit with more than 127 bytes has a count of two.
func TestEncodeOfLongCommits(t *testing.T) {
	long := with(1, 1, bigBatch()...)
	raw := commitBytes(long)
	if len(raw) < 128 {
		t.Fatalf("just %d bytes", len(raw))
	}
	want := slices.Concat([]byte{2, 1, 1, 0, 1}, written(len(raw)), raw)
	wantEncode(t, ship(1, 1, 0, long), want)
	wantDecode(t, want, ship(1, 1, 0, long))
	for count := range 33 {
		m := ship(1, 1, 0, with(1, 1, put(of(16), of(32)), put("b"+of(15), of(32)), put("c", of(count))), one(1, 2))
		wantEncode(t, m, bytesOf(m))
		wantDecode(t, bytesOf(m), m)
	}
}

func TestEncodeAndDecodeAtEachEdge(t *testing.T) {
	for _, m := range allGood() {
		wantEncode(t, m, bytesOf(m))
		wantDecode(t, bytesOf(m), m)
	}
}

// The hello with the most starts that there can be: all epochs, a commit each.
func TestTheLongestHello(t *testing.T) {
	l := make([]api.Start, most)
	for at := range l {
		l[at] = api.Start{Epoch: at + 1, First: at + 1}
	}
	m := hello(most, 3, most, l)
	b, e := letter.Encode(m)
	if e != api.OK || !bytes.Equal(b, bytesOf(m)) {
		t.Fatalf("Encode: %d bytes, %d", len(b), e)
	}
	got, e := letter.Decode(b)
	if e != api.OK || !alike(got, m) {
		t.Fatalf("Decode: %d starts, %d", len(got.Starts), e)
	}
	wantBad(t, b[:len(b)-1])
	wantBad(t, append(b, 0))
	m.Starts = append(l, api.Start{Epoch: most + 1, First: most + 1})
	if e := letter.Check(m); e != api.ErrArg {
		t.Errorf("Check with one more start: %d", e)
	}
	wantBad(t, bytesOf(m))
}

func TestEncodeOfWhatMayNotBe(t *testing.T) {
	for _, m := range allWrong() {
		wantNoBytes(t, m)
	}
}

func TestDecodeOfNothing(t *testing.T) {
	wantBad(t, nil)
	wantBad(t, []byte{})
	wantBad(t, bytesOf(ack(1, 1))[:0])
}

// What is cut off stands in the spare room of the shorter slice, which must not be read.
func TestDecodeOfBytesThatAreCutOff(t *testing.T) {
	for _, m := range allGood() {
		b := bytesOf(m)
		for n := range b {
			wantBad(t, b[:n])
			wantBad(t, bytes.Clone(b[:n]))
		}
		wantDecode(t, b[:len(b):len(b)], m)
	}
}

func TestDecodeWithBytesBehind(t *testing.T) {
	for _, m := range allGood() {
		b := bytesOf(m)
		for _, behind := range [][]byte{{0}, {1}, {127}, {128}, {255}, {0, 0}, {1, 1}, {128, 128}, bytes.Repeat([]byte{255}, 20), b, commitBytes(one(1, 1))} {
			wantBad(t, slices.Concat(b, behind))
		}
	}
}

func TestDecodeWithBytesAhead(t *testing.T) {
	for _, m := range allGood() {
		for _, ahead := range [][]byte{{0}, {4}, {255, 1}} {
			wantBad(t, slices.Concat(ahead, bytesOf(m)))
		}
		for _, ahead := range [][]byte{{1}, {2}, {3}} {
			wantAsTold(t, slices.Concat(ahead, bytesOf(m)))
		}
	}
}

// longer answers a number's bytes with needless ones at their end, more in all.
func longer(x, more int) []byte {
	b := written(x)
	b[len(b)-1] |= 128
	return append(append(b, bytes.Repeat([]byte{128}, more-1)...), 0)
}

// replaced answers the bytes of parts, those of the part at that place being others.
func replaced(l []part, at int, raw []byte) []byte {
	return slices.Concat(joined(l[:at]), raw, joined(l[at+1:]))
}

func TestDecodeOfNumbersThatAreWrittenTooLong(t *testing.T) {
	for _, m := range allGood() {
		l := partsOf(m)
		for at, p := range l {
			if p.raw == nil {
				for more := 1; more <= 10; more++ {
					wantBad(t, replaced(l, at, longer(p.number, more)))
				}
			}
		}
	}
}

// greatNumbers lists numbers that are no field's, many of which would be x, cut down to fewer bits.
func greatNumbers(x int) [][]byte {
	list := [][]byte{bytes.Repeat([]byte{255}, 10), append(bytes.Repeat([]byte{255}, 9), 2), append(bytes.Repeat([]byte{128}, 9), 2), append(bytes.Repeat([]byte{128}, 10), 1), written(most + 1), written(most + 2)}
	for _, high := range []uint64{1 << 31, 1 << 32, 1 << 33, 1 << 62, 1 << 63, 3 << 62, math.MaxUint64 - 1<<31, math.MaxUint64 &^ (1<<31 - 1)} {
		list = append(list, binary.AppendUvarint(nil, high+uint64(x)))
	}
	return append(list, binary.AppendUvarint(nil, math.MaxUint64), binary.AppendUvarint(nil, math.MaxInt64), binary.AppendUvarint(nil, math.MaxInt64+1))
}

func TestDecodeOfNumbersThatAreTooGreat(t *testing.T) {
	for _, m := range allGood() {
		l := partsOf(m)
		for at, p := range l {
			if p.raw == nil {
				for _, great := range greatNumbers(p.number) {
					wantBad(t, replaced(l, at, great))
				}
			}
		}
	}
}

// A role has 8 bits: a number that would be one of the three, cut down to these, is none.
func TestDecodeOfRolesThatWouldWrapRound(t *testing.T) {
	const place = 2
	for _, m := range hellos() {
		for _, high := range []int{256, 512, 1 << 16, 1 << 24, 1 << 32, 1 << 40} {
			wantBad(t, replaced(partsOf(m), place, written(int(m.Role)+high)))
		}
		for _, role := range []int{0, 4, 5, 127, 128, 255} {
			wantBad(t, replaced(partsOf(m), place, written(role)))
		}
	}
}

// A count that is not how many starts or commits follow.
func TestDecodeOfCountsThatAreWrong(t *testing.T) {
	const place = 4
	for _, m := range slices.Concat(hellos(), ships()) {
		l := partsOf(m)
		right := l[place].number
		for _, count := range []int{0, 1, 2, 3, 4, 5, 6, 127, 128, 1000, most, most + 1, 1 << 31, math.MaxInt} {
			if count != right {
				wantBad(t, replaced(l, place, written(count)))
			}
		}
	}
	for _, head := range [][]byte{{1, 1, 1, 0}, {1, 1, 1, 5}, {2, 1, 1, 0}, written(1, most, 1, most), written(2, most, most, most)} {
		for _, count := range []int{1, 2, 4, 5, 127, 128, 1000, most, most + 1, math.MaxInt} {
			wantBad(t, slices.Concat(head, written(count)))
			wantBad(t, slices.Concat(head, written(count), []byte{1}))
		}
	}
}

// A commit's count of bytes that is not what its bytes have.
func TestDecodeOfACommitsCountThatIsWrong(t *testing.T) {
	for _, m := range ships() {
		l := partsOf(m)
		for at, p := range l {
			if p.raw == nil {
				continue
			}
			n := len(p.raw)
			for _, count := range []int{0, 1, n - 2, n - 1, n + 1, n + 2, 2 * n, 2*n + 1, 127, 128, 1000, most, 1 << 31, 1<<32 + n, 1<<62 + n, math.MaxInt} {
				if count != n {
					wantBad(t, replaced(l, at-1, written(count)))
				}
			}
			// The bytes are fewer or more, as the count says.
			wantBad(t, slices.Concat(joined(l[:at-1]), written(n-1), p.raw[:n-1], joined(l[at+1:])))
			wantBad(t, slices.Concat(joined(l[:at-1]), written(n+1), p.raw, []byte{0}, joined(l[at+1:])))
			wantBad(t, slices.Concat(joined(l[:at-1]), written(2*n), p.raw, p.raw, joined(l[at+1:])))
			wantBad(t, slices.Concat(joined(l[:at-1]), []byte{0}, joined(l[at+1:])))
		}
	}
}

// strangeCommits lists bytes that are no commit's: among them those that are a commit's but for how they are written.
func strangeCommits() [][]byte {
	good := commitBytes(one(1, 1))
	list := [][]byte{
		{}, {0}, {1}, {1, 1}, {1, 1, 0}, {1, 1, 1}, {0, 1, 1, 0, 0, 1, 97}, {1, 0, 1, 0, 0, 1, 97},
		{129, 0, 1, 1, 0, 0, 1, 97}, {1, 129, 0, 1, 0, 0, 1, 97}, {1, 1, 129, 0, 0, 0, 1, 97}, {1, 1, 1, 0, 128, 0, 1, 97}, {1, 1, 1, 0, 0, 129, 0, 97},
		{1, 1, 1, 2, 0, 1, 97}, {1, 1, 1, 0, 0, 0}, {1, 1, 1, 0, 1, 1, 97}, {1, 1, 2, 0, 0, 1, 97, 0, 0, 1, 97},
		append(written(most+1), 1, 1, 0, 0, 1, 97), bytes.Repeat([]byte{255}, 12), slices.Concat(good, good),
	}
	for n := range good {
		list = append(list, good[:n])
	}
	for _, bad := range badBatches() {
		list = append(list, commitBytes(with(1, 1, bad...)))
	}
	return list
}

func TestDecodeOfCommitsThatAreNone(t *testing.T) {
	for _, raw := range strangeCommits() {
		wantBad(t, slices.Concat([]byte{2, 1, 1, 0, 1}, written(len(raw)), raw))
		for at := range 4 {
			b := []byte{2, 1, 1, 0, 4}
			for i := range 4 {
				here := commitBytes(one(1, i+1))
				if i == at {
					here = raw
				}
				b = append(append(b, written(len(here))...), here...)
			}
			wantBad(t, b)
		}
	}
}

// The bytes that a message would have that may not be, where each of its numbers can be written.
func TestDecodeOfWhatMayNotBe(t *testing.T) {
	count := 0
	for what, list := range strange() {
		for _, m := range list {
			b := bytesOf(m)
			if told, ok := decodeAnew(b); ok {
				t.Errorf("%s: %+v has the bytes of %+v", what, m, told)
			}
			wantBad(t, b)
			count++
		}
	}
	if count < 300 {
		t.Errorf("just %d messages", count)
	}
	for kind := range 256 {
		if kind < 1 || kind > 3 {
			for _, rest := range [][]byte{nil, {1}, {1, 0}, {1, 1, 0, 0}, {1, 1, 0, 0, 0}, {2, 2, 3, 2, 1, 1, 2, 3}} {
				wantBad(t, slices.Concat(written(kind), rest))
			}
		}
	}
}

// Memory.

const room = 16

// roomy answers b with spare room that is full of marks.
func roomy(b []byte) []byte {
	whole := append(bytes.Clone(b), bytes.Repeat([]byte{0xEE}, room)...)
	return whole[:len(b)]
}

// isRoomy answers whether got is b still, and its spare room full of marks.
func isRoomy(got, b []byte) bool {
	return bytes.Equal(got[:len(b)+room], append(bytes.Clone(b), bytes.Repeat([]byte{0xEE}, room)...))
}

func markStart() api.Start { return api.Start{Epoch: -9, First: -8} }

func markOp() api.Op { return api.Op{Put: true, Key: "mark", Value: "mark"} }

func markCommit() api.Commit { return with(-7, -6, markOp()) }

// withRoom answers m with lists that have spare room, full of marks.
func withRoom(m api.Message) api.Message {
	m.Starts = slices.Concat(m.Starts, slices.Repeat([]api.Start{markStart()}, room))[:len(m.Starts)]
	commits := slices.Clone(m.Commits)
	for at, c := range commits {
		commits[at].Ops = slices.Concat(c.Ops, slices.Repeat([]api.Op{markOp()}, room))[:len(c.Ops)]
	}
	m.Commits = slices.Concat(commits, slices.Repeat([]api.Commit{markCommit()}, room))[:len(m.Commits)]
	return m
}

// whole answers m with the spare room of its lists being a part of them.
func whole(m api.Message) api.Message {
	m = copiedRoom(m)
	m.Starts = m.Starts[:cap(m.Starts)]
	m.Commits = m.Commits[:cap(m.Commits)]
	for at, c := range m.Commits {
		m.Commits[at].Ops = c.Ops[:cap(c.Ops)]
	}
	return m
}

// copiedRoom answers m in new memory, its spare room copied too.
func copiedRoom(m api.Message) api.Message {
	m.Starts = slices.Clip(slices.Clone(m.Starts[:cap(m.Starts)]))
	m.Commits = slices.Clip(slices.Clone(m.Commits[:cap(m.Commits)]))
	for at, c := range m.Commits {
		m.Commits[at].Ops = slices.Clip(slices.Clone(c.Ops[:cap(c.Ops)]))
	}
	return m
}

// spoil changes all lists of m, their spare room too.
func spoil(m api.Message) {
	for _, c := range m.Commits[:cap(m.Commits)] {
		ops := c.Ops[:cap(c.Ops)]
		for i := range ops {
			ops[i] = api.Op{Key: "spoilt"}
		}
	}
	commits := m.Commits[:cap(m.Commits)]
	for i := range commits {
		commits[i] = api.Commit{Epoch: 99}
	}
	starts := m.Starts[:cap(m.Starts)]
	for i := range starts {
		starts[i] = api.Start{Epoch: 99}
	}
}

// samples lists messages with all lengths of lists.
func samples() []api.Message {
	return slices.Concat(mixedUp(), []api.Message{hello(9, 1, 9, begin(1, 1, 2, 2, 3, 3, 4, 4, 5, 5)), ship(5, 2, 1, run(2, 1, 2)...), ship(5, 2, 1, run(2, 1, 2, 3, 4)...), ship(3, 5, 2, with(2, 5, bigBatch()...), with(3, 6, bigBatch()...))})
}

func TestCallsLeaveTheMessagesThatAreHandedIn(t *testing.T) {
	for _, m := range samples() {
		for what, call := range map[string]func(a, b api.Message){
			"Check":  func(a, _ api.Message) { letter.Check(a) },
			"Encode": func(a, _ api.Message) { letter.Encode(a) },
			"Same":   func(a, b api.Message) { letter.Same(a, b); letter.Same(b, a) },
		} {
			a, b := withRoom(m), withRoom(m)
			before := whole(a)
			call(a, b)
			if !alike(whole(a), before) || !alike(whole(b), before) {
				t.Errorf("%s changed %+v, or the room behind its lists", what, m)
			}
			if !alike(a, m) {
				t.Errorf("%s changed %+v", what, m)
			}
		}
	}
}

// What stands in the spare room of a list is no part of it.
func TestSpareRoomIsNotRead(t *testing.T) {
	for _, m := range samples() {
		wantSame(t, withRoom(m), copied(m), true)
		if mayBe(m) {
			wantCheck(t, withRoom(m), api.OK)
			wantEncode(t, withRoom(m), bytesOf(m))
		} else {
			wantNoBytes(t, withRoom(m))
		}
	}
}

// The bytes of a message are the caller's: what is done to them, to the room behind them, and to the message, is seen nowhere else.
func TestEncodeAnswersNewMemory(t *testing.T) {
	for _, m := range samples() {
		if !mayBe(m) {
			continue
		}
		handed := copied(m)
		first, _ := letter.Encode(handed)
		second, _ := letter.Encode(handed)
		first = first[:cap(first)]
		for i := range first {
			first[i] = 0xEE
		}
		spoil(handed)
		if !bytes.Equal(second, bytesOf(m)) {
			t.Errorf("Encode(%+v): the answer was changed later", m)
		}
		wantEncode(t, m, bytesOf(m))
	}
}

func TestDecodeLeavesWhatIsHandedIn(t *testing.T) {
	all := [][]byte{nil, {128}, make([]byte, 6), bytes.Repeat([]byte{255}, 20), {2, 1, 1, 0, 1}, {2, 1, 1, 0, 1, 9}, {1, 1, 1, 1, 1}}
	for _, m := range samples() {
		if mayBe(m) {
			b := bytesOf(m)
			all = append(all, b, b[:len(b)-1], append(bytes.Clone(b), 0))
		}
	}
	for _, plain := range all {
		b := roomy(plain)
		letter.Decode(b)
		if !isRoomy(b, plain) {
			t.Errorf("Decode(%s) changed what was handed in, or the room behind it", short(plain))
		}
		wantAsTold(t, roomy(plain))
	}
}

// What a message tells stays, whatever becomes of the bytes it came from, and of another message that came from them.
func TestDecodeAnswersNewMemory(t *testing.T) {
	for _, m := range samples() {
		if !mayBe(m) {
			continue
		}
		b := bytesOf(m)
		first, _ := letter.Decode(b)
		second, _ := letter.Decode(b)
		spoil(first)
		for i := range b {
			b[i] = 0xEE
		}
		if !alike(second, m) {
			t.Errorf("Decode(%s): the answer was changed later: %+v", short(bytesOf(m)), second)
		}
	}
}

// No two lists of one message share memory, their spare room neither.
func TestListsOfOneAnswerShareNothing(t *testing.T) {
	for _, m := range samples() {
		if !mayBe(m) || m.Kind != 2 {
			continue
		}
		for at := range m.Commits {
			got, _ := letter.Decode(bytesOf(m))
			ops := got.Commits[at].Ops
			ops = ops[:cap(ops)]
			for i := range ops {
				ops[i] = api.Op{Key: "spoilt"}
			}
			for other, c := range got.Commits {
				if other != at && !alikeCommits(c, m.Commits[other]) {
					t.Errorf("the ops of the commits %d and %d of %+v share memory", at, other, m)
				}
			}
		}
	}
}

// P11.3

func TestThereAndBack(t *testing.T) {
	for _, m := range allGood() {
		b, e := letter.Encode(m)
		if e != api.OK {
			t.Fatalf("Encode(%+v): %d", m, e)
		}
		wantDecode(t, b, m)
		got, e := letter.Decode(bytesOf(m))
		if e != api.OK || !letter.Same(got, m) {
			t.Fatalf("Decode(%s): %+v, %d", short(bytesOf(m)), got, e)
		}
		wantEncode(t, got, bytesOf(m))
	}
}

// Every number of one, two and some of three bytes, in each field that has a span.
func TestThereAndBackOfEachSmallNumber(t *testing.T) {
	for value := 1; value < 17000; value++ {
		for _, m := range []api.Message{
			ack(value, value), ack(1, value), hello(value, 2, 0, nil), hello(value, 2, value, begin(value, 1)), hello(value+1, 1, value+1, begin(1, 1, value+1, value+1)),
			ship(value, 1, 0), ship(value+1, value+1, value), ship(value+1, value+1, value, one(value, value+1)), ship(most, 2, value, one(value+1, 2)),
		} {
			wantEncode(t, m, bytesOf(m))
			wantDecode(t, bytesOf(m), m)
		}
		if t.Failed() {
			return
		}
	}
}

func TestUnlikeMessagesHaveUnlikeBytes(t *testing.T) {
	met := map[string]api.Message{}
	for _, m := range allGood() {
		b, _ := letter.Encode(m)
		if other, ok := met[string(b)]; ok && !alike(other, m) {
			t.Errorf("%+v and %+v have the bytes %s", m, other, short(b))
		}
		met[string(b)] = m
	}
}

// Both tellings of bytes.

func TestEveryShortListOfBytes(t *testing.T) {
	choice := []byte{0, 1, 2, 3, 4, 128}
	good := 0
	var b []byte
	var longer func()
	longer = func() {
		wantAsTold(t, b)
		if _, ok := decodeAnew(b); ok {
			good++
		}
		if len(b) == 7 || t.Failed() {
			return
		}
		for _, c := range choice {
			b = append(b, c)
			longer()
			b = b[:len(b)-1]
		}
	}
	longer()
	if good < 100 {
		t.Errorf("just %d messages", good)
	}
}

// Each byte of a message's bytes changed to all others.
func TestEveryByteChanged(t *testing.T) {
	for _, m := range []api.Message{
		ack(2, 7), ack(300, most), hello(1, 1, 0, nil), hello(2, 2, 3, begin(1, 1, 2, 3)), hello(300, 3, 200, begin(1, 1, 130, 5, 300, 150)), ship(1, 1, 0), ship(300, 200, 150),
		ship(3, 2, 1, one(1, 2)), ship(3, 1, 0, with(1, 1, del("a")), with(3, 2, put("b", ""))), ship(3, 5, 2, with(2, 5, put("ab", "1"), put("abc", ""), del("ab")), with(3, 6, del("\x00\xff"))), ship(1, 1, 0, run(1, 1, 1, 1, 1)...),
	} {
		b := bytesOf(m)
		for at := range b {
			for value := range 256 {
				other := bytes.Clone(b)
				other[at] = byte(value)
				wantAsTold(t, other)
			}
		}
	}
}

// turn is a row of numbers that looks mixed and is always the same.
type turn uint64

func (t *turn) below(n int) int {
	*t = *t*6364136223846793005 + 1442695040888963407
	return int(uint64(*t) >> 33 % uint64(n))
}

// from answers a number from least to greatest, small ones and the ends more often than others.
func (t *turn) from(least, greatest int) int {
	span := greatest - least + 1
	switch t.below(4) {
	case 0:
		return least + t.below(span)
	case 1:
		return greatest - t.below(min(span, 3))
	default:
		return least + t.below(min(span, 5))
	}
}

func (t *turn) text(least, greatest int) string {
	b := make([]byte, t.from(least, greatest))
	for i := range b {
		b[i] = "ab\x00\xff"[t.below(4)]
	}
	return string(b)
}

func (t *turn) batch() []api.Op {
	var l []api.Op
	for range t.from(1, 8) {
		o := api.Op{Put: t.below(3) > 0, Key: t.text(1, 16)}
		if o.Put {
			o.Value = t.text(0, 32)
		}
		l = append(l, o)
	}
	return l
}

func (t *turn) hello() api.Message {
	m := hello(t.from(1, most), api.Role(1+t.below(3)), 0, nil)
	epoch, first := 0, 1
	for range t.below(6) {
		if epoch == m.Epoch || first > most {
			break
		}
		epoch = t.from(epoch+1, m.Epoch)
		m.Starts = append(m.Starts, api.Start{Epoch: epoch, First: first})
		m.End = t.from(first, most)
		first = m.End + 1
	}
	return m
}

func (t *turn) ship() api.Message {
	m := ship(t.from(1, most), t.from(1, most), 0)
	if m.From > 1 {
		m.Prev = t.from(1, m.Epoch)
	}
	epoch := max(1, m.Prev)
	for at := range t.below(5) {
		if m.From+at > most {
			break
		}
		epoch = t.from(epoch, m.Epoch)
		m.Commits = append(m.Commits, with(epoch, m.From+at, t.batch()...))
	}
	return m
}

// message answers a message that may be.
func (t *turn) message() api.Message {
	switch t.below(3) {
	case 0:
		return t.hello()
	case 1:
		return t.ship()
	}
	return ack(t.from(1, most), t.from(0, most))
}

func TestMixedMessages(t *testing.T) {
	from := turn(11)
	for range 20000 {
		m := from.message()
		if !mayBe(m) {
			t.Fatalf("%+v may not be", m)
		}
		wantCheck(t, m, api.OK)
		b := bytesOf(m)
		wantEncode(t, m, b)
		wantDecode(t, b, m)
		wantBad(t, b[:from.below(len(b))])
		wantSame(t, m, copied(m), true)
		if other := from.message(); !alike(m, other) {
			wantSame(t, m, other, false)
		}
		if t.Failed() {
			return
		}
	}
}

// nearly answers m with one thing that may be wrong.
func (t *turn) nearly(m api.Message) api.Message {
	list := oneUnlike(m)
	return list[t.below(len(list))]
}

func TestMixedMessagesThatAreNearlyRight(t *testing.T) {
	from := turn(12)
	for range 20000 {
		m := from.nearly(from.message())
		want := api.ErrArg
		if mayBe(m) {
			want = api.OK
		}
		wantCheck(t, m, want)
		wantAsTold(t, bytesOf(m))
		b := bytesOf(from.message())
		b[from.below(len(b))] = byte(from.below(256))
		wantAsTold(t, b)
		if t.Failed() {
			return
		}
	}
}

func FuzzLetters(f *testing.F) {
	f.Add([]byte{})
	for _, m := range samples() {
		f.Add(bytesOf(m))
	}
	f.Add(commitBytes(one(1, 1)))
	f.Fuzz(func(t *testing.T, b []byte) {
		wantAsTold(t, b)
		wantAsTold(t, slices.Concat([]byte{2, 1, 1, 0, 1}, written(len(b)), b))
		wantAsTold(t, slices.Concat([]byte{2, 3, 1, 0, 2}, written(len(b)), b, []byte{9, 3, 2, 1, 1, 0, 1, 97, 1, 49}))
	})
}
