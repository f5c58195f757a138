package page_test

import (
	"bytes"
	"encoding/binary"
	"fmt"
	"math"
	"slices"
	"testing"

	"lagleash/api"
	"lagleash/disk"
	"lagleash/frame"
	"lagleash/page"
)

// The greatest epoch, position and fork, and the greatest base, as the document writes them.
const (
	most     = 1048576
	mostBase = 1073741824
)

// span is from the least to the greatest that a field may be.
type span struct{ least, greatest int }

func (s span) has(x int) bool { return x >= s.least && x <= s.greatest }

// edges lists both ends of the span, and what lies just within.
func (s span) edges() []int {
	var l []int
	for _, x := range []int{s.least, s.least + 1, s.greatest - 1, s.greatest} {
		if s.has(x) && !slices.Contains(l, x) {
			l = append(l, x)
		}
	}
	return l
}

// beyond lists what lies just outside, far outside, and what would be within, cut down to 8, 16 or 32 bits.
func (s span) beyond() []int {
	return []int{
		s.least - 1, s.greatest + 1, s.least - 2, s.greatest + 2,
		math.MinInt, math.MinInt + 1, math.MaxInt, math.MaxInt - 1, -1 << 32, 1 << 32, s.least + 1<<32, s.greatest + 1<<32, s.greatest - 1<<32, s.greatest - 1<<62, s.least + 1<<62,
	}
}

// The fields of a page, in the order of its bytes.
const (
	epochField = iota
	roleField
	ackedField
	phaseField
	forkField
	baseField
	fieldCount
)

// row is a row of the document's table, of one role and one phase.
type row [fieldCount]span

func only(x int) span { return span{x, x} }

// rows is the document's table, written out: a row for each phase.
func rows() []row {
	epoch, number, base := span{1, most}, span{0, most}, span{0, mostBase}
	return []row{
		{epoch, only(1), number, only(0), only(0), only(0)},
		{epoch, only(2), only(0), only(0), only(0), only(0)},
		{epoch, only(3), only(0), only(1), only(0), only(0)},
		{epoch, only(3), only(0), only(2), number, base},
		{epoch, only(3), only(0), only(3), number, base},
		{epoch, only(3), only(0), only(4), number, base},
	}
}

// numbers are a page's, in the order of its bytes.
type numbers [fieldCount]int

// page puts numbers into a page, a role and a phase of which have 8 bits.
func (x numbers) page() api.Page {
	return api.Page{Epoch: x[epochField], Role: api.Role(x[roleField]), Acked: x[ackedField], Phase: api.Phase(x[phaseField]), Fork: x[forkField], Base: x[baseField]}
}

func numbersOf(p api.Page) numbers {
	return numbers{p.Epoch, int(p.Role), p.Acked, int(p.Phase), p.Fork, p.Base}
}

// mayBe goes through the table.
func mayBe(x numbers) bool {
	return slices.ContainsFunc(rows(), func(r row) bool {
		for field, s := range r {
			if !s.has(x[field]) {
				return false
			}
		}
		return true
	})
}

// product lists all numbers whose fields are each one of those given for it.
func product(choice [fieldCount][]int) []numbers {
	all := []numbers{{}}
	for field, list := range choice {
		var longer []numbers
		for _, x := range all {
			for _, value := range list {
				x[field] = value
				longer = append(longer, x)
			}
		}
		all = longer
	}
	return all
}

// ofRow lists the pages of a row at the edges of all fields.
func ofRow(r row) []numbers {
	var choice [fieldCount][]int
	for field, s := range r {
		choice[field] = s.edges()
	}
	return product(choice)
}

// allRows lists the pages of all rows at their edges.
func allRows() []numbers {
	var all []numbers
	for _, r := range rows() {
		all = append(all, ofRow(r)...)
	}
	return all
}

// wrongPages lists pages that may not be: of each row, each with one field that is not what it may be.
func wrongPages() []api.Page {
	var all []api.Page
	for _, r := range rows() {
		for _, x := range ofRow(r) {
			for field := range r {
				values := r[field].beyond()
				if field == roleField || field == phaseField {
					values = everyByte()
				}
				for _, value := range values {
					y := x
					y[field] = value
					if !mayBe(y) {
						all = append(all, y.page())
					}
				}
			}
		}
	}
	return all
}

// everyByte lists all that a role and a phase can be.
func everyByte() []int {
	var l []int
	for x := range 256 {
		l = append(l, x)
	}
	return l
}

// written answers numbers as the document has them written: by the library, not by the program.
func written(list ...int) []byte {
	var b []byte
	for _, x := range list {
		b = binary.AppendUvarint(b, uint64(x))
	}
	return b
}

// bytesOf answers a page's bytes, by the library.
func bytesOf(x numbers) []byte { return written(x[:]...) }

// framed answers the records' frames, one behind the other: by the library.
func framed(records ...[]byte) []byte {
	var b []byte
	for _, r := range records {
		b = append(append(b, written(len(r))...), r...)
	}
	return b
}

// fileOf answers the frames of pages, one behind the other: by the library.
func fileOf(pages ...numbers) []byte {
	var b []byte
	for _, x := range pages {
		b = append(b, framed(bytesOf(x))...)
	}
	return b
}

// firstOf is the document's first page of either node.
func firstOf(node int) api.Page {
	return []api.Page{{Epoch: 1, Role: 1}, {Epoch: 1, Role: 2}}[node]
}

// roomy answers b with spare room that is full of marks.
func roomy(b []byte) []byte {
	whole := append(bytes.Clone(b), bytes.Repeat([]byte{0xEE}, 64)...)
	return whole[:len(b)]
}

// isRoomy answers whether got is b still, and its spare room full of marks.
func isRoomy(got, b []byte) bool {
	return bytes.Equal(got[:len(b)+64], append(bytes.Clone(b), bytes.Repeat([]byte{0xEE}, 64)...))
}

// overwrite changes b, its spare room too.
func overwrite(b []byte) {
	b = b[:cap(b)]
	for i := range b {
		b[i] = 0xEE
	}
}

// short tells bytes, at most so many as can be looked at.
func short(b []byte) string {
	if len(b) <= 40 {
		return fmt.Sprint(b)
	}
	return fmt.Sprintf("%d bytes: %v ..", len(b), b[:40])
}

// What is asked of the calls.

func wantCheck(t *testing.T, p api.Page, e api.Errno) {
	t.Helper()
	if now := page.Check(p); now != e {
		t.Errorf("Check(%+v) = %d; want %d", p, now, e)
	}
}

func wantFirst(t *testing.T, node int, want api.Page, e api.Errno) {
	t.Helper()
	if p, now := page.First(node); p != want || now != e {
		t.Errorf("First(%d) = %+v, %d; want %+v, %d", node, p, now, want, e)
	}
}

func wantEncode(t *testing.T, p api.Page, want []byte) {
	t.Helper()
	if b, e := page.Encode(p); !bytes.Equal(b, want) || e != api.OK {
		t.Errorf("Encode(%+v) = %v, %d; want %v, OK", p, b, e, want)
	}
}

func wantNoBytes(t *testing.T, p api.Page) {
	t.Helper()
	if b, e := page.Encode(p); b != nil || e != api.ErrArg {
		t.Errorf("Encode(%+v) = %v, %d; want none, ErrArg", p, b, e)
	}
}

func wantDecode(t *testing.T, b []byte, want api.Page) {
	t.Helper()
	if p, e := page.Decode(b); p != want || e != api.OK {
		t.Errorf("Decode(%s) = %+v, %d; want %+v, OK", short(b), p, e, want)
	}
}

func wantBad(t *testing.T, b []byte) {
	t.Helper()
	if p, e := page.Decode(b); p != (api.Page{}) || e != api.ErrBad {
		t.Errorf("Decode(%s) = %+v, %d; want nothing, ErrBad", short(b), p, e)
	}
}

func wantLast(t *testing.T, file []byte, node int, want api.Page, end int) {
	t.Helper()
	if p, n, e := page.Last(file, node); p != want || n != end || e != api.OK {
		t.Errorf("Last(%s, %d) = %+v, %d, %d; want %+v, %d, OK", short(file), node, p, n, e, want, end)
	}
}

// wantLastOf: of the file the last page is that one, for either node; of none (a page of the epoch 0) each node's first page.
func wantLastOf(t *testing.T, file []byte, last numbers, end int) {
	t.Helper()
	for node := range 2 {
		if last == (numbers{}) {
			wantLast(t, file, node, firstOf(node), 0)
		} else {
			wantLast(t, file, node, last.page(), end)
		}
	}
}

// The chapter's examples.
func TestExamples(t *testing.T) {
	wantFirst(t, 0, api.Page{Epoch: 1, Role: api.Primary}, api.OK)
	wantFirst(t, 1, api.Page{Epoch: 1, Role: api.Replica}, api.OK)
	wantFirst(t, 2, api.Page{}, api.ErrArg)
	wantEncode(t, api.Page{Epoch: 3, Role: api.Primary, Acked: 7}, []byte{3, 1, 7, 0, 0, 0})
	wantBad(t, []byte{3, 2, 7, 0, 0, 0})
	wantDecode(t, []byte{3, 3, 0, 1, 0, 0}, api.Page{Epoch: 3, Role: api.Deposed, Phase: api.Heard})
	wantDecode(t, []byte{3, 3, 0, 2, 5, 9}, api.Page{Epoch: 3, Role: api.Deposed, Phase: api.Forked, Fork: 5, Base: 9})
	wantLast(t, nil, 1, api.Page{Epoch: 1, Role: api.Replica}, 0)
	wantLast(t, []byte{6, 2, 1, 4, 0, 0, 0, 6, 2}, 0, api.Page{Epoch: 2, Role: api.Primary, Acked: 4}, 7)
}

// P10.1

func TestCheckOfEachRowAtItsEdges(t *testing.T) {
	for _, x := range allRows() {
		wantCheck(t, x.page(), api.OK)
	}
	for _, p := range []api.Page{
		{Epoch: 1, Role: api.Primary}, {Epoch: 1 << 20, Role: api.Primary, Acked: 1 << 20}, {Epoch: 1, Role: api.Replica}, {Epoch: 1 << 20, Role: api.Replica},
		{Epoch: 1, Role: api.Deposed, Phase: api.Heard}, {Epoch: 1 << 20, Role: api.Deposed, Phase: api.Heard},
		{Epoch: 1, Role: api.Deposed, Phase: api.Forked}, {Epoch: 1, Role: api.Deposed, Phase: api.Forked, Fork: 1 << 20, Base: 1 << 30},
		{Epoch: 1, Role: api.Deposed, Phase: api.Filed}, {Epoch: 1, Role: api.Deposed, Phase: api.Filed, Fork: 1 << 20, Base: 1 << 30},
		{Epoch: 1, Role: api.Deposed, Phase: api.Cut}, {Epoch: 1, Role: api.Deposed, Phase: api.Cut, Fork: 1 << 20, Base: 1 << 30},
	} {
		wantCheck(t, p, api.OK)
	}
}

func TestCheckWithOneFieldThatMayNotBe(t *testing.T) {
	wrong := wrongPages()
	if len(wrong) < 1000 {
		t.Fatalf("just %d pages", len(wrong))
	}
	for _, p := range wrong {
		wantCheck(t, p, api.ErrArg)
	}
}

func TestCheckOfEachWrongField(t *testing.T) {
	for what, list := range map[string][]api.Page{
		"nothing in it":         {{}},
		"an epoch":              {{Role: api.Primary}, {Epoch: -1, Role: api.Primary}, {Epoch: 1<<20 + 1, Role: api.Primary}, {Epoch: 0, Role: api.Replica}, {Epoch: 1<<20 + 1, Role: api.Replica}, {Epoch: 0, Role: api.Deposed, Phase: api.Heard}, {Epoch: 1<<20 + 1, Role: api.Deposed, Phase: api.Cut}},
		"a role":                {{Epoch: 1}, {Epoch: 1, Role: 4}, {Epoch: 1, Role: 255}, {Epoch: 1, Role: 4, Phase: api.Heard}, {Epoch: 1, Phase: api.Cut}},
		"an acked position":     {{Epoch: 1, Role: api.Primary, Acked: -1}, {Epoch: 1, Role: api.Primary, Acked: 1<<20 + 1}, {Epoch: 1, Role: api.Replica, Acked: 1}, {Epoch: 1, Role: api.Deposed, Phase: api.Heard, Acked: 1}, {Epoch: 1, Role: api.Deposed, Phase: api.Forked, Acked: 1}, {Epoch: 1, Role: api.Deposed, Phase: api.Filed, Acked: 1}, {Epoch: 1, Role: api.Deposed, Phase: api.Cut, Acked: 1}},
		"a phase that is none":  {{Epoch: 1, Role: api.Deposed, Phase: 5}, {Epoch: 1, Role: api.Deposed, Phase: 255}, {Epoch: 1, Role: api.Primary, Phase: 5}},
		"a phase of a role":     {{Epoch: 1, Role: api.Deposed}, {Epoch: 1, Role: api.Primary, Phase: api.Heard}, {Epoch: 1, Role: api.Primary, Phase: api.Cut}, {Epoch: 1, Role: api.Replica, Phase: api.Heard}, {Epoch: 1, Role: api.Replica, Phase: api.Forked}},
		"a fork where none is":  {{Epoch: 1, Role: api.Primary, Fork: 1}, {Epoch: 1, Role: api.Replica, Fork: 1}, {Epoch: 1, Role: api.Deposed, Phase: api.Heard, Fork: 1}},
		"a base where none is":  {{Epoch: 1, Role: api.Primary, Base: 1}, {Epoch: 1, Role: api.Replica, Base: 1}, {Epoch: 1, Role: api.Deposed, Phase: api.Heard, Base: 1}},
		"a fork out of bounds":  {{Epoch: 1, Role: api.Deposed, Phase: api.Forked, Fork: -1}, {Epoch: 1, Role: api.Deposed, Phase: api.Filed, Fork: 1<<20 + 1}, {Epoch: 1, Role: api.Deposed, Phase: api.Cut, Fork: 1<<20 + 1}},
		"a base out of bounds":  {{Epoch: 1, Role: api.Deposed, Phase: api.Forked, Base: -1}, {Epoch: 1, Role: api.Deposed, Phase: api.Filed, Base: 1<<30 + 1}, {Epoch: 1, Role: api.Deposed, Phase: api.Cut, Base: 1<<30 + 1}},
		"several wrong at once": {{Epoch: -1, Role: 9, Acked: -1, Phase: 9, Fork: -1, Base: -1}, {Epoch: 1 << 40, Role: api.Replica, Acked: 1, Phase: api.Cut}},
	} {
		t.Run(what, func(t *testing.T) {
			for _, p := range list {
				wantCheck(t, p, api.ErrArg)
			}
		})
	}
}

// All roles and phases there are, with and without the fields that some have.
func TestCheckOfEachRoleAndPhase(t *testing.T) {
	for role := range 256 {
		for phase := range 256 {
			for _, rest := range [][3]int{{0, 0, 0}, {1, 0, 0}, {0, 1, 0}, {0, 0, 1}, {0, 1, 1}, {1, 1, 1}} {
				x := numbers{1, role, rest[0], phase, rest[1], rest[2]}
				want := api.ErrArg
				if mayBe(x) {
					want = api.OK
				}
				wantCheck(t, x.page(), want)
			}
		}
	}
}

// Each field out of its span or within, whatever the others are.
func TestCheckOfAllFieldsTogether(t *testing.T) {
	ends := []int{math.MinInt, -1, 0, 1, most, most + 1}
	kinds := []int{0, 1, 2, 3, 4, 5, 255}
	for _, x := range product([fieldCount][]int{ends, kinds, ends, kinds, ends, {math.MinInt, -1, 0, 1, mostBase, mostBase + 1}}) {
		want := api.ErrArg
		if mayBe(x) {
			want = api.OK
		}
		wantCheck(t, x.page(), want)
	}
}

func TestFirst(t *testing.T) {
	for node := range 2 {
		wantFirst(t, node, firstOf(node), api.OK)
		wantCheck(t, firstOf(node), api.OK)
	}
	for _, node := range []int{-1, 2, 3, -2, 255, 256, 257, 1 << 32, 1<<32 + 1, math.MaxInt, math.MinInt, math.MinInt + 1} {
		wantFirst(t, node, api.Page{}, api.ErrArg)
	}
}

// P10.2

func TestEncodeOfEachRow(t *testing.T) {
	for _, c := range []struct {
		p api.Page
		b []byte
	}{
		{api.Page{Epoch: 1, Role: api.Primary}, []byte{1, 1, 0, 0, 0, 0}},
		{api.Page{Epoch: 127, Role: api.Primary, Acked: 127}, []byte{127, 1, 127, 0, 0, 0}},
		{api.Page{Epoch: 128, Role: api.Primary, Acked: 300}, []byte{128, 1, 1, 172, 2, 0, 0, 0}},
		{api.Page{Epoch: 1 << 20, Role: api.Primary, Acked: 1 << 20}, []byte{128, 128, 64, 1, 128, 128, 64, 0, 0, 0}},
		{api.Page{Epoch: 2, Role: api.Replica}, []byte{2, 2, 0, 0, 0, 0}},
		{api.Page{Epoch: 1 << 20, Role: api.Replica}, []byte{128, 128, 64, 2, 0, 0, 0, 0}},
		{api.Page{Epoch: 5, Role: api.Deposed, Phase: api.Heard}, []byte{5, 3, 0, 1, 0, 0}},
		{api.Page{Epoch: 300, Role: api.Deposed, Phase: api.Heard}, []byte{172, 2, 3, 0, 1, 0, 0}},
		{api.Page{Epoch: 5, Role: api.Deposed, Phase: api.Forked}, []byte{5, 3, 0, 2, 0, 0}},
		{api.Page{Epoch: 5, Role: api.Deposed, Phase: api.Forked, Fork: 200, Base: 300}, []byte{5, 3, 0, 2, 200, 1, 172, 2}},
		{api.Page{Epoch: 5, Role: api.Deposed, Phase: api.Filed, Fork: 6, Base: 1 << 14}, []byte{5, 3, 0, 3, 6, 128, 128, 1}},
		{api.Page{Epoch: 5, Role: api.Deposed, Phase: api.Cut, Fork: 16383, Base: 7}, []byte{5, 3, 0, 4, 255, 127, 7}},
		{api.Page{Epoch: 1 << 20, Role: api.Deposed, Phase: api.Cut, Fork: 1 << 20, Base: 1 << 30}, []byte{128, 128, 64, 3, 0, 4, 128, 128, 64, 128, 128, 128, 128, 4}},
	} {
		wantEncode(t, c.p, c.b)
		wantDecode(t, c.b, c.p)
	}
}

func TestEncodeAndDecodeAtEachEdge(t *testing.T) {
	for _, x := range allRows() {
		wantEncode(t, x.page(), bytesOf(x))
		wantDecode(t, bytesOf(x), x.page())
	}
}

func TestEncodeOfPagesThatMayNotBe(t *testing.T) {
	wantNoBytes(t, api.Page{})
	for _, p := range wrongPages() {
		wantNoBytes(t, p)
	}
}

func TestDecodeOfNothing(t *testing.T) {
	wantBad(t, nil)
	wantBad(t, []byte{})
	wantBad(t, bytesOf(numbers{1, 1})[:0])
}

// What is cut off stands in the spare room of the shorter slice, which must not be read.
func TestDecodeOfBytesThatAreCutOff(t *testing.T) {
	for _, x := range allRows() {
		b := bytesOf(x)
		for n := range b {
			wantBad(t, b[:n])
			wantBad(t, bytes.Clone(b[:n]))
		}
		wantDecode(t, b[:len(b):len(b)], x.page())
	}
}

func TestDecodeWithBytesBehind(t *testing.T) {
	for _, x := range allRows() {
		b := bytesOf(x)
		for _, behind := range [][]byte{{0}, {1}, {127}, {128}, {255}, {0, 0}, {0, 0, 0, 0, 0, 0}, {128, 128}, bytes.Repeat([]byte{255}, 20), b} {
			wantBad(t, slices.Concat(b, behind))
		}
	}
}

func TestDecodeWithBytesAhead(t *testing.T) {
	for _, x := range allRows() {
		for _, ahead := range [][]byte{{0}, {1}, {6}, {255, 1}} {
			wantBad(t, slices.Concat(ahead, bytesOf(x)))
		}
	}
}

// longer answers a number's bytes with needless ones at their end, more in all.
func longer(x, more int) []byte {
	b := written(x)
	b[len(b)-1] |= 128
	return append(append(b, bytes.Repeat([]byte{128}, more-1)...), 0)
}

func TestDecodeOfNumbersThatAreWrittenTooLong(t *testing.T) {
	for _, x := range allRows() {
		for field := range x {
			for more := 1; more <= 10; more++ {
				wantBad(t, slices.Concat(written(x[:field]...), longer(x[field], more), written(x[field+1:]...)))
			}
		}
	}
}

// greatNumbers lists numbers that are no field's, many of which would be one, cut down to fewer bits.
func greatNumbers(x int) [][]byte {
	list := [][]byte{bytes.Repeat([]byte{255}, 10), append(bytes.Repeat([]byte{255}, 9), 2), append(bytes.Repeat([]byte{128}, 9), 2), append(bytes.Repeat([]byte{128}, 10), 1)}
	for _, high := range []uint64{1 << 31, 1 << 32, 1 << 33, 1 << 62, 1 << 63, 3 << 62, math.MaxUint64 - 1<<31, math.MaxUint64 &^ (1<<31 - 1)} {
		list = append(list, binary.AppendUvarint(nil, high+uint64(x)))
	}
	return append(list, binary.AppendUvarint(nil, math.MaxUint64), binary.AppendUvarint(nil, math.MaxInt64), binary.AppendUvarint(nil, math.MaxInt64+1))
}

func TestDecodeOfNumbersThatAreTooGreat(t *testing.T) {
	for _, x := range allRows() {
		for field := range x {
			for _, great := range greatNumbers(x[field]) {
				wantBad(t, slices.Concat(written(x[:field]...), great, written(x[field+1:]...)))
			}
		}
	}
}

// A role and a phase have 8 bits: a number that would be one of the document's, cut down to these, is none.
func TestDecodeOfRolesAndPhasesThatWouldWrapRound(t *testing.T) {
	for _, x := range allRows() {
		for _, field := range []int{roleField, phaseField} {
			for _, high := range []int{256, 512, 1 << 16, 1 << 24, 1 << 32, 1 << 40} {
				y := x
				y[field] += high
				wantBad(t, bytesOf(y))
			}
		}
	}
}

func TestDecodeOfPagesThatMayNotBe(t *testing.T) {
	wantBad(t, make([]byte, fieldCount))
	for _, p := range wrongPages() {
		wantBad(t, bytesOf(numbersOf(p)))
	}
}

func TestDecodeLeavesWhatIsHandedIn(t *testing.T) {
	var all [][]byte
	for _, x := range allRows() {
		b := bytesOf(x)
		all = append(all, b, b[:len(b)-1], append(bytes.Clone(b), 0))
	}
	for _, plain := range append(all, nil, []byte{128}, make([]byte, 6), bytes.Repeat([]byte{255}, 20)) {
		b := roomy(plain)
		page.Decode(b)
		if !isRoomy(b, plain) {
			t.Errorf("Decode(%v) changed what was handed in, or the room behind it", plain)
		}
	}
}

// The bytes of a page are the caller's: what is done to them, and to the room behind them, is seen nowhere else.
func TestEncodeAnswersNewMemory(t *testing.T) {
	for _, x := range allRows() {
		first, _ := page.Encode(x.page())
		second, _ := page.Encode(x.page())
		for _, spare := range first[len(first):cap(first)] {
			if spare != 0 {
				t.Errorf("Encode(%+v): something stands in the spare room", x.page())
			}
		}
		overwrite(first)
		if !bytes.Equal(second, bytesOf(x)) {
			t.Errorf("Encode(%+v): two answers share memory", x.page())
		}
		wantEncode(t, x.page(), bytesOf(x))
	}
}

// P10.3

// several lists pages of all rows, one behind the other, none the same as the one ahead.
func several() []numbers {
	return []numbers{
		{1, 1, 0, 0, 0, 0}, {1, 1, 4, 0, 0, 0}, {2, 3, 0, 1, 0, 0}, {2, 3, 0, 2, 3, 0}, {2, 3, 0, 3, 3, 0}, {2, 3, 0, 4, 3, 0}, {2, 2, 0, 0, 0, 0},
		{3, 1, 200, 0, 0, 0}, {300, 3, 0, 1, 0, 0}, {300, 3, 0, 2, 150, 70000}, {most, 1, most, 0, 0, 0}, {most, 3, 0, 4, most, mostBase}, {1, 2, 0, 0, 0, 0},
	}
}

// strange lists records that are no pages.
func strange() [][]byte {
	return [][]byte{
		{}, {0}, {9}, {128}, make([]byte, 6), {3, 2, 7, 0, 0, 0}, {1, 1, 0, 0, 0}, {1, 1, 0, 0, 0, 0, 0}, {129, 0, 1, 0, 0, 0, 0}, {0, 1, 0, 0, 0, 0}, {1, 4, 0, 0, 0, 0}, {1, 3, 0, 5, 0, 0},
		bytesOf(numbers{most + 1, 1}), fileOf(numbers{1, 1}), bytes.Repeat([]byte{1}, 200), make([]byte, 131072),
	}
}

// tornEnds lists bytes that begin no frame, some of which a frame of a page begins with.
func tornEnds() [][]byte {
	ends := [][]byte{
		nil, {128}, {255, 255}, bytes.Repeat([]byte{128}, 9),
		{1}, {6}, {6, 1}, {6, 1, 1, 0, 0, 0}, {128, 1}, append([]byte{128, 1}, make([]byte, 127)...),
		{134, 0, 1, 1, 0, 0, 0, 0}, {128, 0}, {134, 128, 0, 1, 1, 0, 0, 0, 0},
		append(written(131073), make([]byte, 131073)...), written(131073), written(1 << 40), written(math.MaxInt),
		bytes.Repeat([]byte{255}, 10), append(bytes.Repeat([]byte{255}, 9), 2),
	}
	whole := fileOf(numbers{most, 3, 0, 4, most, mostBase})
	for n := range whole {
		ends = append(ends, whole[:n])
	}
	return ends
}

func TestLastOfNoBytes(t *testing.T) {
	wantLastOf(t, nil, numbers{}, 0)
	wantLastOf(t, []byte{}, numbers{}, 0)
	wantLastOf(t, fileOf(several()...)[:0], numbers{}, 0)
}

func TestLastOfOnePage(t *testing.T) {
	for _, x := range allRows() {
		wantLastOf(t, fileOf(x), x, len(bytesOf(x))+1)
	}
}

func TestLastOfSeveralPages(t *testing.T) {
	pages := several()
	for from := range pages {
		for upto := from + 1; upto <= len(pages); upto++ {
			b := fileOf(pages[from:upto]...)
			wantLastOf(t, b, pages[upto-1], len(b))
		}
	}
	for _, x := range pages {
		b := fileOf(x, x, x)
		wantLastOf(t, b, x, len(b))
	}
}

// Which page comes behind which is no matter here.
func TestLastOfPagesInAnyOrder(t *testing.T) {
	for _, x := range several() {
		for _, y := range several() {
			b := fileOf(y, x)
			wantLastOf(t, b, x, len(b))
		}
	}
}

func TestLastOfManyPages(t *testing.T) {
	var pages []numbers
	for i := range 2000 {
		pages = append(pages, numbers{1 + i, 1, i, 0, 0, 0})
	}
	b := fileOf(pages...)
	wantLastOf(t, b, pages[1999], len(b))
}

func TestLastEndsAtTheFirstThatIsNoPage(t *testing.T) {
	behind := fileOf(numbers{7, 1, 7, 0, 0, 0}, numbers{8, 2, 0, 0, 0, 0})
	for _, record := range strange() {
		rest := slices.Concat(framed(record), behind)
		wantLastOf(t, framed(record), numbers{}, 0)
		wantLastOf(t, rest, numbers{}, 0)
		wantLastOf(t, slices.Concat(framed(record, record), behind), numbers{}, 0)
		pages := several()
		for count := 1; count <= len(pages); count++ {
			b := fileOf(pages[:count]...)
			wantLastOf(t, slices.Concat(b, framed(record)), pages[count-1], len(b))
			wantLastOf(t, slices.Concat(b, rest), pages[count-1], len(b))
			wantLastOf(t, slices.Concat(b, rest, framed(record)), pages[count-1], len(b))
		}
	}
}

func TestLastOfTornEnds(t *testing.T) {
	for _, end := range tornEnds() {
		wantLastOf(t, end, numbers{}, 0)
		pages := several()
		for count := 1; count <= len(pages); count++ {
			b := fileOf(pages[:count]...)
			wantLastOf(t, slices.Concat(b, end), pages[count-1], len(b))
			wantLastOf(t, slices.Concat(b, framed([]byte{9}), end), pages[count-1], len(b))
		}
	}
}

// What stands behind a frame that is not whole is torn, whole frames of pages too.
func TestLastPassesOverNothing(t *testing.T) {
	pages := several()
	b := fileOf(pages...)
	for _, bad := range [][]byte{{128, 0}, {134, 0}, written(131073), bytes.Repeat([]byte{255}, 10)} {
		wantLastOf(t, slices.Concat(bad, b), numbers{}, 0)
		wantLastOf(t, slices.Concat(b, bad, fileOf(numbers{9, 1, 9, 0, 0, 0})), pages[len(pages)-1], len(b))
	}
}

func TestLastOfANodeThatIsNone(t *testing.T) {
	b := fileOf(several()...)
	for _, node := range []int{-1, 2, 3, -2, 255, 256, 257, 1 << 32, 1<<32 + 1, math.MaxInt, math.MinInt, math.MinInt + 1} {
		for _, file := range [][]byte{nil, {}, b, b[:len(b)-1], {128}, {1, 9}} {
			if p, n, e := page.Last(file, node); p != (api.Page{}) || n != 0 || e != api.ErrArg {
				t.Errorf("Last(%s, %d) = %+v, %d, %d; want nothing, 0, ErrArg", short(file), node, p, n, e)
			}
		}
	}
}

func TestLastLeavesWhatIsHandedIn(t *testing.T) {
	b := fileOf(several()...)
	files := [][]byte{nil, b, b[:20], slices.Concat(b, framed([]byte{9}), b)}
	for _, end := range tornEnds() {
		files = append(files, end, slices.Concat(b, end))
	}
	for _, plain := range files {
		for _, node := range []int{0, 1, 2} {
			file := roomy(plain)
			page.Last(file, node)
			if !isRoomy(file, plain) {
				t.Errorf("Last(%s, %d) changed what was handed in, or the room behind it", short(plain), node)
			}
		}
	}
}

// P10.4

func TestThereAndBack(t *testing.T) {
	for _, x := range allRows() {
		b, e := page.Encode(x.page())
		if e != api.OK {
			t.Fatalf("Encode(%+v): %d", x.page(), e)
		}
		wantDecode(t, b, x.page())
		p, e := page.Decode(bytesOf(x))
		if e != api.OK {
			t.Fatalf("Decode(%v): %d", bytesOf(x), e)
		}
		wantEncode(t, p, bytesOf(x))
	}
}

// Every number of one, two and some of three bytes, in each field that has a span.
func TestThereAndBackOfEachSmallNumber(t *testing.T) {
	for value := range 17000 {
		for _, x := range []numbers{{1 + value, 2}, {1, 1, value}, {1, 3, 0, 2, value}, {1, 3, 0, 3, 0, value}, {1, 3, 0, 4, value, value}} {
			wantEncode(t, x.page(), bytesOf(x))
			wantDecode(t, bytesOf(x), x.page())
		}
		if t.Failed() {
			return
		}
	}
}

func TestUnlikePagesHaveUnlikeBytes(t *testing.T) {
	met := map[string]numbers{}
	for _, x := range allRows() {
		b, _ := page.Encode(x.page())
		if other, ok := met[string(b)]; ok && other != x {
			t.Errorf("%v and %v have the bytes %v", x, other, b)
		}
		met[string(b)] = x
	}
}

// appended puts a page's frame behind the file by the program's own calls.
func appended(t *testing.T, file []byte, x numbers) []byte {
	t.Helper()
	b, e := page.Encode(x.page())
	if e != api.OK {
		t.Fatalf("Encode(%+v): %d", x.page(), e)
	}
	file, e = frame.Append(file, b)
	if e != api.OK {
		t.Fatalf("frame.Append of %v: %d", b, e)
	}
	return file
}

func TestLastOfPagesThatAreCutAtEveryPlace(t *testing.T) {
	var file []byte
	var ends []int
	pages := several()
	for _, x := range pages {
		file = appended(t, file, x)
		ends = append(ends, len(file))
	}
	for cut := range len(file) + 1 {
		last, end := numbers{}, 0
		for at, x := range pages {
			if ends[at] <= cut {
				last, end = x, ends[at]
			}
		}
		wantLastOf(t, file[:cut], last, end)
		wantLastOf(t, bytes.Clone(file[:cut]), last, end)
	}
}

// A page that is put where Last says that the last one ends is the last one then.
func TestAPageBehindTheLastOneIsTheLast(t *testing.T) {
	file := fileOf(several()...)
	for cut := range len(file) + 1 {
		_, end, _ := page.Last(file[:cut], 0)
		for _, x := range []numbers{{5, 1, 6, 0, 0, 0}, {most, 3, 0, 3, most, mostBase}} {
			longer := appended(t, file[:end], x)
			wantLastOf(t, longer, x, len(longer))
		}
	}
}

// played writes pages to a disk, a raw write each, which is synced behind the first synced of them, and pulls it.
func played(t *testing.T, pages []numbers, synced int) *disk.Disk {
	t.Helper()
	d := disk.New()
	for at, x := range pages {
		if at == synced {
			if e := d.Sync(); e != api.OK {
				t.Fatalf("Sync: %d", e)
			}
		}
		if e := d.Write(api.FilePages, appended(t, nil, x)); e != api.OK {
			t.Fatalf("Write: %d", e)
		}
	}
	if e := d.Pull(); e != api.OK {
		t.Fatalf("Pull: %d", e)
	}
	return d
}

// Whatever a disk keeps, Last tells the last page that was synced, or a later one: as many steps later as stood; what there is of the next one's frame is torn.
func TestLastOfWhatADiskKeeps(t *testing.T) {
	pages := several()
	for synced := range pages {
		for whole := synced; whole <= len(pages); whole++ {
			last := numbers{}
			if whole > 0 {
				last = pages[whole-1]
			}
			for torn := range 20 {
				d := played(t, pages, synced)
				if e := d.Start(whole-synced, torn); e != api.OK {
					t.Fatalf("Start(%d, %d): %d", whole-synced, torn, e)
				}
				wantLastOf(t, d.Durable(api.FilePages), last, len(fileOf(pages[:whole]...)))
			}
		}
	}
}

// A second telling: bytes are a page just if six numbers stand there, that are written so by the library, and the table has them.

func decodeAnew(b []byte) (numbers, bool) {
	var x numbers
	rest := b
	for field := range x {
		value, n := binary.Uvarint(rest)
		if n <= 0 || value > math.MaxInt {
			return numbers{}, false
		}
		x[field] = int(value)
		rest = rest[n:]
	}
	if !bytes.Equal(b, bytesOf(x)) || !mayBe(x) {
		return numbers{}, false
	}
	return x, true
}

// lastAnew goes over what frame.Scan tells, as the document says it.
func lastAnew(file []byte) (last numbers, end int) {
	records, _ := frame.Scan(file)
	for _, r := range records {
		x, ok := decodeAnew(r)
		if !ok {
			break
		}
		last = x
		end += len(framed(r))
	}
	return last, end
}

func wantAsTold(t *testing.T, b []byte) {
	t.Helper()
	if x, ok := decodeAnew(b); ok {
		wantDecode(t, b, x.page())
		wantEncode(t, x.page(), b)
	} else {
		wantBad(t, b)
	}
}

func wantLastAsTold(t *testing.T, file []byte) {
	t.Helper()
	last, end := lastAnew(file)
	wantLastOf(t, file, last, end)
}

func TestEveryShortListOfBytes(t *testing.T) {
	choice := []byte{0, 1, 2, 3, 4, 128}
	var b []byte
	var longer func()
	longer = func() {
		wantAsTold(t, b)
		if len(b) == 7 || t.Failed() {
			return
		}
		for _, c := range choice {
			b = append(b, c)
			longer()
			b = b[:len(b)-1]
		}
	}
	longer()
}

// Each byte of a page's bytes changed to all others.
func TestEveryByteChanged(t *testing.T) {
	for _, x := range several() {
		b := bytesOf(x)
		file := fileOf(numbers{1, 1}, x, numbers{4, 2})
		for value := range 256 {
			for at := range b {
				other := bytes.Clone(b)
				other[at] = byte(value)
				wantAsTold(t, other)
			}
			for at := range file {
				other := bytes.Clone(file)
				other[at] = byte(value)
				wantLastAsTold(t, other)
			}
		}
	}
}

// turn is a row of numbers that looks mixed and is always the same.
type turn uint64

func (t *turn) below(n int) int {
	*t = *t*6364136223846793005 + 1442695040888963407
	return int(uint64(*t) >> 33 % uint64(n))
}

// mixedNumbers answers the numbers of a page that may be, or that nearly may be.
func (t *turn) mixedNumbers() numbers {
	list := rows()
	r := list[t.below(len(list))]
	var x numbers
	for field, s := range r {
		x[field] = s.least + t.below(s.greatest-s.least+1)
		if t.below(40) == 0 {
			x[field] = t.below(6)
		}
	}
	return x
}

// mixedFile answers bytes that are mostly pages' frames.
func (t *turn) mixedFile() []byte {
	var b []byte
	for range t.below(10) {
		switch t.below(12) {
		case 0:
			b = append(b, byte(t.below(256)))
		case 1:
			b = append(b, framed(make([]byte, t.below(9)))...)
		default:
			b = append(b, fileOf(t.mixedNumbers())...)
		}
	}
	return b
}

func TestMixedPagesAndFiles(t *testing.T) {
	from := turn(10)
	for range 20000 {
		x := from.mixedNumbers()
		b := bytesOf(x)
		wantAsTold(t, b)
		wantAsTold(t, b[:from.below(len(b)+1)])
		file := from.mixedFile()
		wantLastAsTold(t, file)
		wantLastAsTold(t, file[:from.below(len(file)+1)])
		if t.Failed() {
			return
		}
	}
}

func FuzzPages(f *testing.F) {
	f.Add([]byte{})
	f.Add([]byte{3, 1, 7, 0, 0, 0})
	f.Add([]byte{3, 3, 0, 2, 5, 9})
	f.Add(bytesOf(numbers{most, 3, 0, 4, most, mostBase}))
	f.Add(fileOf(several()...))
	f.Fuzz(func(t *testing.T, b []byte) {
		wantAsTold(t, b)
		wantLastAsTold(t, b)
		wantLastAsTold(t, framed(b, []byte{3, 1, 7, 0, 0, 0}))
	})
}
