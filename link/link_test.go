package link_test

import (
	"bytes"
	"iter"
	"math"
	"slices"
	"strconv"
	"testing"

	"lagleash/api"
	"lagleash/link"
)

const room = 512 // letters in flight, at most, as the document writes it

// noSites lists what is no site's number.
func noSites() []int { return []int{-1, 2, 3, -2, 256, 1 << 32, 1<<32 + 1, math.MinInt, math.MaxInt} }

// letter is a letter that is compared by ==.
type letter struct {
	number, to int
	text       string
}

func told(x api.Letter) letter { return letter{x.Number, x.To, string(x.Bytes)} }

// look is what a link tells of its letters in flight.
func look(l *link.Link) []letter {
	var all []letter
	for _, x := range l.Flight() {
		all = append(all, told(x))
	}
	return all
}

func numbersOf(all []letter) []int {
	var numbers []int
	for _, x := range all {
		numbers = append(numbers, x.number)
	}
	return numbers
}

// wantFlight: just these are in flight, by Flight and by All.
func wantFlight(t *testing.T, what string, l *link.Link, all ...letter) {
	t.Helper()
	if now := look(l); !slices.Equal(now, all) {
		t.Errorf("%s: in flight are %v, not %v", what, now, all)
	}
	if now := slices.Collect(l.All()); !slices.Equal(now, numbersOf(all)) {
		t.Errorf("%s: All goes over %v, not %v", what, now, numbersOf(all))
	}
}

func want(t *testing.T, what string, got, e api.Errno) {
	t.Helper()
	if got != e {
		t.Errorf("%s: %d, not %d", what, got, e)
	}
}

// wantNumber: a Send or a Twice gave this number.
func wantNumber(t *testing.T, what string, n int, e api.Errno, number int) {
	t.Helper()
	if n != number || e != api.OK {
		t.Errorf("%s: %d, %d; not %d, 0", what, n, e, number)
	}
}

// wantLetter: a Deliver told this letter.
func wantLetter(t *testing.T, what string, x api.Letter, e api.Errno, l letter) {
	t.Helper()
	if told(x) != l || e != api.OK {
		t.Errorf("%s: %v, %d; not %v", what, told(x), e, l)
	}
}

func isZero(x api.Letter) bool { return x.Number == 0 && x.To == 0 && x.Bytes == nil }

// wantNoNumber: the call answers e and no number, and nothing in flight has changed by it.
func wantNoNumber(t *testing.T, what string, l *link.Link, call func() (int, api.Errno), e api.Errno) {
	t.Helper()
	ahead := look(l)
	if n, got := call(); n != 0 || got != e {
		t.Errorf("%s: %d, %d; not 0, %d", what, n, got, e)
	}
	wantFlight(t, what, l, ahead...)
}

func wantNotSent(t *testing.T, l *link.Link, to int, b []byte, e api.Errno) {
	t.Helper()
	what := "Send(" + strconv.Itoa(to) + ", " + strconv.Itoa(len(b)) + " bytes)"
	wantNoNumber(t, what, l, func() (int, api.Errno) { return l.Send(to, b) }, e)
}

func wantNotDoubled(t *testing.T, l *link.Link, number int, e api.Errno) {
	t.Helper()
	wantNoNumber(t, "Twice("+strconv.Itoa(number)+")", l, func() (int, api.Errno) { return l.Twice(number) }, e)
}

// wantMissing: no call finds a letter of that number, and nothing in flight has changed by them.
func wantMissing(t *testing.T, l *link.Link, number int) {
	t.Helper()
	ahead := look(l)
	wantNotDoubled(t, l, number, api.ErrMissing)
	if x, e := l.Deliver(number); !isZero(x) || e != api.ErrMissing {
		t.Errorf("Deliver(%d): %+v, %d", number, x, e)
	}
	want(t, "Drop("+strconv.Itoa(number)+")", l.Drop(number), api.ErrMissing)
	wantFlight(t, "Deliver and Drop of "+strconv.Itoa(number), l, ahead...)
}

// send sends a letter to a link that has room for it, on the ground of a test.
func send(t *testing.T, l *link.Link, to int, text string) int {
	t.Helper()
	n, e := l.Send(to, []byte(text))
	if e != api.OK {
		t.Fatalf("Send: %d", e)
	}
	return n
}

func must(t *testing.T, what string, e api.Errno) {
	t.Helper()
	if e != api.OK {
		t.Fatalf("%s: %d", what, e)
	}
}

// sent is the letter that filled sends as number.
func sent(number int) letter {
	return letter{number, number % 2, "letter " + strconv.Itoa(number)}
}

// filled answers a link with count letters in flight, from the number 1 on.
func filled(t *testing.T, count int) *link.Link {
	t.Helper()
	l := link.New()
	for i := range count {
		send(t, l, sent(i+1).to, sent(i+1).text)
	}
	return l
}

// without lists what is in flight of count letters behind those that are gone.
func without(count int, gone ...int) []letter {
	var all []letter
	for i := range count {
		if !slices.Contains(gone, i+1) {
			all = append(all, sent(i+1))
		}
	}
	return all
}

// overwrite changes b, its spare room too.
func overwrite(b []byte) {
	b = b[:cap(b)]
	for i := range b {
		b[i] = 0xEE
	}
}

// The chapter's examples, one behind the other at one link.
func TestExamples(t *testing.T) {
	l := link.New()
	n, e := l.Send(1, []byte("a"))
	wantNumber(t, "Send(1, a)", n, e, 1)
	n, e = l.Send(0, []byte("b"))
	wantNumber(t, "Send(0, b)", n, e, 2)
	n, e = l.Twice(1)
	wantNumber(t, "Twice(1)", n, e, 3)
	wantFlight(t, "Flight", l, letter{1, 1, "a"}, letter{2, 0, "b"}, letter{3, 1, "a"})
	x, e := l.Deliver(1)
	wantLetter(t, "Deliver(1)", x, e, letter{1, 1, "a"})
	x, e = l.Deliver(1)
	if !isZero(x) || e != api.ErrMissing {
		t.Errorf("Deliver(1) again: %+v, %d", x, e)
	}
	want(t, "Drop(2)", l.Drop(2), api.OK)
	want(t, "Drop(2) again", l.Drop(2), api.ErrMissing)
	wantNotSent(t, l, 2, []byte("c"), api.ErrArg)
	wantNotDoubled(t, l, 9, api.ErrMissing)
	wantFlight(t, "behind them", l, letter{3, 1, "a"})
}

// P6.1

func TestNew(t *testing.T) {
	l := link.New()
	if all := l.Flight(); len(all) != 0 {
		t.Errorf("Flight: %+v", all)
	}
	wantFlight(t, "a new link", l)
	for _, number := range []int{0, 1, 2, -1} {
		wantMissing(t, l, number)
	}
}

func TestNewLinksAreApart(t *testing.T) {
	a, b := filled(t, 3), link.New()
	wantFlight(t, "the other link", b)
	wantMissing(t, b, 1)
	n, e := b.Send(0, []byte("x"))
	wantNumber(t, "Send at the other link", n, e, 1)
	wantFlight(t, "the first link", a, without(3)...)
	must(t, "Drop", b.Drop(1))
	wantFlight(t, "the first link", a, without(3)...)
}

// texts lists bytes for letters: none, a nought, each byte, many.
func texts() [][]byte {
	each := make([]byte, 256)
	for i := range each {
		each[i] = byte(i)
	}
	return [][]byte{nil, {}, each[:0], {0}, []byte("a"), []byte("a"), {0, 0, 0}, each, bytes.Repeat(each, 1000)}
}

func TestSend(t *testing.T) {
	for to := range 2 {
		l := link.New()
		var all []letter
		for i, b := range texts() {
			n, e := l.Send(to, b)
			wantNumber(t, "Send", n, e, i+1)
			all = append(all, letter{i + 1, to, string(b)})
			wantFlight(t, "behind it", l, all...)
		}
		for i, b := range texts() {
			x, e := l.Deliver(i + 1)
			wantLetter(t, "Deliver", x, e, letter{i + 1, to, string(b)})
		}
	}
}

func TestSendToBoth(t *testing.T) {
	l := link.New()
	var all []letter
	for i, to := range []int{0, 1, 1, 0, 0, 1} {
		n, e := l.Send(to, []byte{byte('a' + i)})
		wantNumber(t, "Send", n, e, i+1)
		all = append(all, letter{i + 1, to, string([]byte{byte('a' + i)})})
		wantFlight(t, "behind it", l, all...)
	}
}

func TestSendToNoSite(t *testing.T) {
	for _, count := range []int{0, 1, 7, 511, 512} {
		l := filled(t, count)
		for _, to := range noSites() {
			for _, b := range [][]byte{nil, {}, []byte("a")} {
				wantNotSent(t, l, to, b, api.ErrArg)
			}
		}
	}
}

func TestTheLastThatIsTaken(t *testing.T) {
	for to := range 2 {
		l := filled(t, room-1)
		n, e := l.Send(to, []byte("last"))
		wantNumber(t, "Send with 511 in flight", n, e, room)
		all := append(without(room-1), letter{room, to, "last"})
		wantFlight(t, "behind it", l, all...)
		for other := range 2 {
			for _, b := range [][]byte{nil, {}, []byte("a")} {
				wantNotSent(t, l, other, b, api.ErrLong)
			}
		}
		wantFlight(t, "behind those that were lost", l, all...)
	}
}

// What is in flight counts, not what was sent.
func TestThereIsRoomAgain(t *testing.T) {
	l := filled(t, room)
	next := room + 1
	for i, number := range []int{7, 1, 512, 300} {
		if i%2 == 0 {
			must(t, "Drop", l.Drop(number))
		} else {
			_, e := l.Deliver(number)
			must(t, "Deliver", e)
		}
		n, e := l.Send(1, []byte("new"))
		wantNumber(t, "Send", n, e, next)
		wantNotSent(t, l, 1, nil, api.ErrLong)
		next++
	}
	wantFlight(t, "behind them", l, append(without(room, 7, 1, 512, 300),
		letter{513, 1, "new"}, letter{514, 1, "new"}, letter{515, 1, "new"}, letter{516, 1, "new"})...)
}

// A letter, or a call, that is refused takes no number.
func TestWhatIsRefusedTakesNoNumber(t *testing.T) {
	l := link.New()
	refused := func() {
		for range 3 {
			wantNotSent(t, l, 2, []byte("x"), api.ErrArg)
			wantNotSent(t, l, -1, nil, api.ErrArg)
			wantMissing(t, l, 0)
			wantMissing(t, l, 9999)
		}
	}
	for i := range room {
		if i < 4 || i > room-4 {
			refused()
		}
		n, e := l.Send(i%2, nil)
		wantNumber(t, "Send", n, e, i+1)
	}
	for range 5 {
		wantNotSent(t, l, 0, []byte("lost"), api.ErrLong)
		wantNotDoubled(t, l, 3, api.ErrLong)
		refused()
	}
	must(t, "Drop", l.Drop(3))
	n, e := l.Send(0, []byte("x"))
	wantNumber(t, "Send with room again", n, e, room+1)
	must(t, "Drop", l.Drop(4))
	n, e = l.Twice(5)
	wantNumber(t, "Twice with room again", n, e, room+2)
}

// Numbers go on when nothing is in flight.
func TestNumbersGoOn(t *testing.T) {
	l := link.New()
	for i := range 2000 {
		n, e := l.Send(i%2, []byte("x"))
		wantNumber(t, "Send", n, e, i+1)
		if i%3 == 0 {
			must(t, "Drop", l.Drop(n))
		} else {
			x, e := l.Deliver(n)
			wantLetter(t, "Deliver", x, e, letter{n, i % 2, "x"})
		}
		wantFlight(t, "behind it", l)
	}
}

func sizes() []int { return []int{0, 1, 7, 8, 9, 31, 32, 33, 100, 1000} }

// some answers count bytes that can be told.
func some(count int) []byte {
	b := make([]byte, count)
	for i := range b {
		b[i] = byte('0' + i%71)
	}
	return b
}

func TestSendLeavesWhatIsHandedIn(t *testing.T) {
	for _, size := range sizes() {
		l := link.New()
		whole := some(size + 200)
		for to := -1; to <= 2; to++ {
			l.Send(to, whole[:size])
		}
		l.Twice(1)
		for _, x := range l.Flight() {
			overwrite(x.Bytes)
		}
		for number := range 5 {
			x, _ := l.Deliver(number)
			overwrite(x.Bytes)
		}
		if !bytes.Equal(whole, some(size+200)) {
			t.Errorf("%d bytes, or their spare room, were changed", size)
		}
	}
}

func TestSendKeepsNothingOfWhatIsHandedIn(t *testing.T) {
	for _, size := range sizes() {
		l := link.New()
		whole := some(size + 200)
		n := send(t, l, 0, "")
		must(t, "Drop", l.Drop(n))
		if _, e := l.Send(1, whole[:size]); e != api.OK {
			t.Fatal(e)
		}
		overwrite(whole)
		if _, e := l.Twice(2); e != api.OK {
			t.Fatal(e)
		}
		text := string(some(size))
		wantFlight(t, "overwritten since", l, letter{2, 1, text}, letter{3, 1, text})
		for _, x := range l.Flight() {
			wantCleanRoom(t, x.Bytes)
		}
		for _, number := range []int{3, 2} {
			x, e := l.Deliver(number)
			wantLetter(t, "Deliver", x, e, letter{number, 1, text})
			wantCleanRoom(t, x.Bytes)
		}
	}
}

// wantCleanRoom: the spare room of an answer has nothing of what stood behind the bytes that were handed in.
func wantCleanRoom(t *testing.T, b []byte) {
	t.Helper()
	for _, x := range b[len(b):cap(b)] {
		if x != 0 {
			t.Errorf("the spare room of %d bytes has %d", len(b), x)
			return
		}
	}
}

// One slice handed in many times is many letters.
func TestSendOfOneSliceManyTimes(t *testing.T) {
	l := link.New()
	b := []byte("0")
	var all []letter
	for i := range 10 {
		b[0] = byte('0' + i)
		n, e := l.Send(i%2, b)
		wantNumber(t, "Send", n, e, i+1)
		all = append(all, letter{i + 1, i % 2, string(b)})
	}
	wantFlight(t, "behind them", l, all...)
}

// P6.2

// Each place of a few letters, the first, the middle and the last among them.
func TestDeliverAtEachPlace(t *testing.T) {
	for _, count := range []int{1, 2, 3, 7, 512} {
		for _, number := range places(count) {
			l := filled(t, count)
			x, e := l.Deliver(number)
			wantLetter(t, "Deliver", x, e, sent(number))
			wantFlight(t, "behind it", l, without(count, number)...)
			wantMissing(t, l, number)
		}
	}
}

func TestDropAtEachPlace(t *testing.T) {
	for _, count := range []int{1, 2, 3, 7, 512} {
		for _, number := range places(count) {
			l := filled(t, count)
			want(t, "Drop", l.Drop(number), api.OK)
			wantFlight(t, "behind it", l, without(count, number)...)
			wantMissing(t, l, number)
		}
	}
}

func TestTwiceAtEachPlace(t *testing.T) {
	for _, count := range []int{1, 2, 3, 7, 511} {
		for _, number := range places(count) {
			l := filled(t, count)
			n, e := l.Twice(number)
			wantNumber(t, "Twice", n, e, count+1)
			double := letter{count + 1, sent(number).to, sent(number).text}
			wantFlight(t, "behind it", l, append(without(count), double)...)
		}
	}
}

// places lists the first numbers, some in the middle, and the last ones.
func places(count int) []int {
	all := []int{1, 2, count / 3, count / 2, count - 1, count}
	all = slices.DeleteFunc(all, func(number int) bool { return number < 1 || number > count })
	slices.Sort(all)
	return slices.Compact(all)
}

func TestOfWhatIsMissing(t *testing.T) {
	for _, count := range []int{0, 1, 3, 7, 512} {
		l := filled(t, count)
		for _, number := range []int{0, -1, -2, -count, count + 1, count + 2, 1000, 1 << 32, 1<<32 + 1, math.MinInt, math.MaxInt} {
			if number < 1 || number > count {
				wantMissing(t, l, number)
			}
		}
		wantFlight(t, "behind them", l, without(count)...)
	}
}

func TestOfWhatWasDeliveredOrDropped(t *testing.T) {
	l := filled(t, 9)
	for _, number := range []int{1, 5, 9} {
		_, e := l.Deliver(number)
		must(t, "Deliver", e)
		wantMissing(t, l, number)
	}
	for _, number := range []int{2, 4, 8} {
		must(t, "Drop", l.Drop(number))
		wantMissing(t, l, number)
	}
	for _, number := range []int{1, 2, 4, 5, 8, 9} {
		wantMissing(t, l, number)
	}
	wantFlight(t, "behind them", l, sent(3), sent(6), sent(7))
	n, e := l.Send(0, nil)
	wantNumber(t, "Send", n, e, 10)
	for _, number := range []int{1, 2, 4, 5, 8, 9} {
		wantMissing(t, l, number)
	}
}

func TestDeliverAll(t *testing.T) {
	for _, order := range [][]int{{1, 2, 3, 4, 5}, {5, 4, 3, 2, 1}, {3, 1, 5, 2, 4}} {
		l := filled(t, 5)
		for i, number := range order {
			x, e := l.Deliver(number)
			wantLetter(t, "Deliver", x, e, sent(number))
			wantFlight(t, "behind it", l, without(5, order[:i+1]...)...)
		}
	}
}

func TestTwiceWithLittleRoom(t *testing.T) {
	l := filled(t, room-1)
	n, e := l.Twice(1)
	wantNumber(t, "Twice with 511 in flight", n, e, room)
	all := append(without(room-1), letter{room, sent(1).to, sent(1).text})
	wantFlight(t, "behind it", l, all...)
	for _, number := range []int{1, 2, 256, room} {
		wantNotDoubled(t, l, number, api.ErrLong)
	}
	for _, number := range []int{0, -1, room + 1, math.MaxInt, math.MinInt} {
		wantNotDoubled(t, l, number, api.ErrMissing)
	}
	must(t, "Drop", l.Drop(2))
	wantNotDoubled(t, l, 2, api.ErrMissing)
	n, e = l.Twice(room)
	wantNumber(t, "Twice with room again", n, e, room+1)
	wantNotDoubled(t, l, 2, api.ErrMissing)
	wantNotDoubled(t, l, room+1, api.ErrLong)
}

func TestTwiceOfNoBytes(t *testing.T) {
	for _, b := range [][]byte{nil, {}} {
		l := link.New()
		if _, e := l.Send(1, b); e != api.OK {
			t.Fatal(e)
		}
		n, e := l.Twice(1)
		wantNumber(t, "Twice", n, e, 2)
		wantFlight(t, "behind it", l, letter{1, 1, ""}, letter{2, 1, ""})
	}
}

// Of a letter and its double each goes its own way: all that can be done to the one, and then to the other.
func TestALetterAndItsDouble(t *testing.T) {
	deliver := func(t *testing.T, l *link.Link, number int) {
		x, e := l.Deliver(number)
		wantLetter(t, "Deliver", x, e, letter{number, 1, "a"})
		overwrite(x.Bytes)
	}
	drop := func(t *testing.T, l *link.Link, number int) { want(t, "Drop", l.Drop(number), api.OK) }
	for _, first := range []func(*testing.T, *link.Link, int){deliver, drop} {
		for _, second := range []func(*testing.T, *link.Link, int){deliver, drop} {
			for _, order := range [][2]int{{1, 2}, {2, 1}} {
				l := link.New()
				send(t, l, 1, "a")
				n, e := l.Twice(1)
				wantNumber(t, "Twice", n, e, 2)
				first(t, l, order[0])
				wantFlight(t, "one is gone", l, letter{order[1], 1, "a"})
				wantMissing(t, l, order[0])
				n, e = l.Twice(order[1])
				wantNumber(t, "Twice of the other", n, e, 3)
				second(t, l, order[1])
				wantFlight(t, "both are gone", l, letter{3, 1, "a"})
				wantMissing(t, l, order[1])
				deliver(t, l, 3)
				wantFlight(t, "all are gone", l)
			}
		}
	}
}

// Doubled often, and doubles of doubles: each has what was sent, in memory of its own.
func TestDoublesOfDoubles(t *testing.T) {
	l := link.New()
	send(t, l, 0, "first")
	send(t, l, 1, "second")
	all := []letter{{1, 0, "first"}, {2, 1, "second"}}
	for i, number := range []int{1, 2, 3, 4, 1, 5, 6, 2} {
		n, e := l.Twice(number)
		wantNumber(t, "Twice", n, e, i+3)
		all = append(all, letter{i + 3, all[number-1].to, all[number-1].text})
		wantFlight(t, "behind it", l, all...)
	}
	for i, x := range all {
		y, e := l.Deliver(x.number)
		wantLetter(t, "Deliver", y, e, x)
		overwrite(y.Bytes)
		wantFlight(t, "behind it", l, all[i+1:]...)
	}
}

// A double of a letter that is gone by now is doubled further.
func TestADoubleOutlivesItsLetter(t *testing.T) {
	l := link.New()
	number := send(t, l, 1, "a")
	for i := range 1000 {
		n, e := l.Twice(number)
		wantNumber(t, "Twice", n, e, i+2)
		if i%2 == 0 {
			must(t, "Drop", l.Drop(number))
		} else {
			x, e := l.Deliver(number)
			wantLetter(t, "Deliver", x, e, letter{number, 1, "a"})
			overwrite(x.Bytes)
		}
		wantFlight(t, "behind it", l, letter{n, 1, "a"})
		number = n
	}
}

func TestDeliverIsNewMemory(t *testing.T) {
	for _, size := range sizes() {
		l := link.New()
		text := string(some(size))
		for range 3 {
			send(t, l, 0, text)
		}
		l.Twice(1)
		flight := l.Flight()
		first, _ := l.Deliver(1)
		second, _ := l.Deliver(2)
		overwrite(first.Bytes)
		if string(second.Bytes) != text {
			t.Errorf("%d bytes: what was delivered shares memory with what was delivered next", size)
		}
		for i, x := range flight {
			if told(x) != (letter{i + 1, 0, text}) {
				t.Errorf("%d bytes: what was delivered shares memory with what Flight answered", size)
			}
		}
		overwrite(second.Bytes)
		wantFlight(t, "overwritten", l, letter{3, 0, text}, letter{4, 0, text})
		// What is sent and doubled later doesn't show in what was delivered.
		third, _ := l.Deliver(3)
		for range 8 {
			send(t, l, 1, string(bytes.Repeat([]byte{'x'}, size)))
		}
		l.Twice(5)
		if told(third) != (letter{3, 0, text}) {
			t.Errorf("%d bytes: what was delivered was changed later", size)
		}
	}
}

// P6.3

func TestFlightBehindCallsInTheMidst(t *testing.T) {
	l := link.New()
	wantFlight(t, "no letters", l)
	send(t, l, 0, "a")
	wantFlight(t, "one", l, letter{1, 0, "a"})
	send(t, l, 1, "b")
	send(t, l, 0, "c")
	l.Twice(2)
	wantFlight(t, "behind a double", l, letter{1, 0, "a"}, letter{2, 1, "b"}, letter{3, 0, "c"}, letter{4, 1, "b"})
	l.Deliver(2)
	wantFlight(t, "behind a delivery", l, letter{1, 0, "a"}, letter{3, 0, "c"}, letter{4, 1, "b"})
	send(t, l, 1, "d")
	l.Drop(3)
	wantFlight(t, "behind a drop", l, letter{1, 0, "a"}, letter{4, 1, "b"}, letter{5, 1, "d"})
	l.Twice(1)
	l.Deliver(1)
	wantFlight(t, "behind a double and a delivery", l, letter{4, 1, "b"}, letter{5, 1, "d"}, letter{6, 0, "a"})
	l.Drop(6)
	l.Drop(4)
	l.Deliver(5)
	wantFlight(t, "all are gone", l)
	send(t, l, 1, "e")
	wantFlight(t, "one again", l, letter{7, 1, "e"})
}

func TestFlightOfMany(t *testing.T) {
	for _, count := range []int{2, 100, 511, 512} {
		l := filled(t, count)
		wantFlight(t, "behind them", l, without(count)...)
		var gone []int
		for number := 2; number <= count; number += 3 {
			must(t, "Drop", l.Drop(number))
			gone = append(gone, number)
		}
		wantFlight(t, "each third is gone", l, without(count, gone...)...)
	}
}

func TestFlightIsNewMemory(t *testing.T) {
	for _, size := range sizes() {
		l := link.New()
		text := string(some(size))
		var all []letter
		for i := range 5 {
			send(t, l, i%2, text)
			all = append(all, letter{i + 1, i % 2, text})
		}
		l.Twice(2)
		all = append(all, letter{6, 1, text})
		first, second := l.Flight(), l.Flight()
		// The letters of one answer, one by one.
		for i, x := range first {
			overwrite(x.Bytes)
			for j, y := range first[i+1:] {
				if told(y) != all[i+1+j] {
					t.Errorf("%d bytes: letters of one answer share memory", size)
				}
			}
		}
		first = first[:cap(first)]
		for i := range first {
			first[i] = api.Letter{Number: 99, To: 9, Bytes: []byte("zz")}
		}
		for i, x := range second {
			if told(x) != all[i] {
				t.Errorf("%d bytes: two answers share memory", size)
			}
		}
		wantFlight(t, "overwritten", l, all...)
	}
}

// What Flight answered stays as it is, whatever the link does.
func TestFlightStays(t *testing.T) {
	l := filled(t, 6)
	flight := l.Flight()
	spare := flight[len(flight):cap(flight)]
	l.Deliver(1)
	l.Drop(3)
	l.Twice(2)
	l.Twice(6)
	for range 20 {
		send(t, l, 0, "new")
	}
	for i, x := range flight {
		if told(x) != sent(i+1) {
			t.Errorf("the letter %d: %v", i+1, told(x))
		}
	}
	for _, x := range spare {
		if !isZero(x) {
			t.Errorf("the spare room has %v", told(x))
		}
	}
}

func TestAll(t *testing.T) {
	for _, count := range []int{0, 1, 2, 7, 511, 512} {
		l := filled(t, count)
		all := l.All()
		if all == nil {
			t.Fatal("All: nil")
		}
		for range 2 {
			if now := slices.Collect(all); !slices.Equal(now, numbersOf(without(count))) {
				t.Errorf("of %d letters: %v", count, now)
			}
		}
	}
}

// firstOf goes over count numbers and stops there.
func firstOf(all iter.Seq[int], count int) []int {
	var seen []int
	for number := range all {
		seen = append(seen, number)
		if len(seen) == count {
			break
		}
	}
	return seen
}

func TestAllIsStopped(t *testing.T) {
	l := filled(t, 7)
	must(t, "Drop", l.Drop(2))
	numbers := []int{1, 3, 4, 5, 6, 7}
	all := l.All()
	for count := 1; count <= len(numbers); count++ {
		for range 2 {
			if seen := firstOf(all, count); !slices.Equal(seen, numbers[:count]) {
				t.Errorf("stopped behind %d: %v", count, seen)
			}
		}
		calls := 0
		all(func(int) bool {
			calls++
			return calls < count
		})
		if calls != count {
			t.Errorf("stopped behind %d: it went on to %d", count, calls)
		}
	}
	if seen := slices.Collect(all); !slices.Equal(seen, numbers) {
		t.Errorf("gone over again: %v", seen)
	}
}

// One inside the other, and two turn by turn.
func TestAllGoneOverAtOnce(t *testing.T) {
	l := filled(t, 4)
	all := l.All()
	var seen []int
	for a := range all {
		for b := range all {
			seen = append(seen, 10*a+b)
		}
	}
	if len(seen) != 16 || !slices.IsSorted(seen) || seen[0] != 11 || seen[15] != 44 {
		t.Errorf("one inside the other: %v", seen)
	}
	next, stop := iter.Pull(all)
	defer stop()
	other, stopOther := iter.Pull(all)
	defer stopOther()
	for number := 1; number <= 4; number++ {
		a, _ := next()
		b, _ := other()
		if a != number || b != number {
			t.Errorf("turn by turn: %d, %d; not %d", a, b, number)
		}
	}
}

// It goes over what was in flight at the call that gave it.
func TestAllStays(t *testing.T) {
	l := filled(t, 5)
	all := l.All()
	ahead := []int{1, 2, 3, 4, 5}
	stays := func(what string) {
		t.Helper()
		// What another one goes over is not this one's.
		for range l.All() {
		}
		if seen := slices.Collect(all); !slices.Equal(seen, ahead) {
			t.Errorf("%s: %v", what, seen)
		}
	}
	send(t, l, 0, "x")
	stays("behind a send")
	l.Deliver(1)
	stays("behind a delivery")
	l.Drop(3)
	stays("behind a drop")
	l.Twice(2)
	stays("behind a double")
	for _, number := range []int{2, 4, 5, 6, 7} {
		must(t, "Drop", l.Drop(number))
	}
	stays("all are gone")
	for range 10 {
		send(t, l, 1, "y")
	}
	stays("others are in flight")
	if seen := slices.Collect(l.All()); !slices.Equal(seen, []int{8, 9, 10, 11, 12, 13, 14, 15, 16, 17}) {
		t.Errorf("All called anew: %v", seen)
	}
}

func TestAllOfNoLettersStays(t *testing.T) {
	l := link.New()
	all := l.All()
	send(t, l, 0, "x")
	if seen := slices.Collect(all); len(seen) != 0 {
		t.Errorf("behind a send: %v", seen)
	}
}

// What changes while it is gone over doesn't show in it.
func TestChangedWhileAllIsGoneOver(t *testing.T) {
	for name, change := range map[string]func(l *link.Link, number int){
		"sends":                   func(l *link.Link, number int) { l.Send(0, []byte("x")) },
		"doubles":                 func(l *link.Link, number int) { l.Twice(number) },
		"delivers":                func(l *link.Link, number int) { l.Deliver(number) },
		"drops":                   func(l *link.Link, number int) { l.Drop(number) },
		"drops the next one":      func(l *link.Link, number int) { l.Drop(number + 1) },
		"drops the last one":      func(l *link.Link, number int) { l.Drop(10 - number) },
		"drops and sends":         func(l *link.Link, number int) { l.Drop(number); l.Send(1, nil) },
		"doubles, drops the next": func(l *link.Link, number int) { l.Twice(number); l.Drop(number + 1) },
	} {
		l := filled(t, 9)
		all := l.All()
		for range 2 {
			var seen []int
			for number := range all {
				seen = append(seen, number)
				change(l, number)
			}
			if !slices.Equal(seen, []int{1, 2, 3, 4, 5, 6, 7, 8, 9}) {
				t.Errorf("%s: %v", name, seen)
			}
		}
	}
}

// P6.4, over many lists of calls

// model tells what a link does in another way: by all letters that were ever given a number, none of which is ever taken away.
type model struct {
	given []letter
	gone  map[int]int // how often a number was delivered or dropped
}

func newModel() *model { return &model{gone: map[int]int{}} }

func (m *model) isThere(number int) bool {
	return number >= 1 && number <= len(m.given) && m.gone[number] == 0
}

func (m *model) flight() []letter {
	var all []letter
	for _, x := range m.given {
		if m.isThere(x.number) {
			all = append(all, x)
		}
	}
	return all
}

func (m *model) give(to int, text string) (int, api.Errno) {
	if len(m.given)-len(m.gone) == room {
		return 0, api.ErrLong
	}
	m.given = append(m.given, letter{len(m.given) + 1, to, text})
	return len(m.given), api.OK
}

func (m *model) send(to int, text string) (int, api.Errno) {
	if to < 0 || to > 1 {
		return 0, api.ErrArg
	}
	return m.give(to, text)
}

func (m *model) twice(number int) (int, api.Errno) {
	if !m.isThere(number) {
		return 0, api.ErrMissing
	}
	return m.give(m.given[number-1].to, m.given[number-1].text)
}

func (m *model) remove(number int) (letter, api.Errno) {
	if !m.isThere(number) {
		return letter{}, api.ErrMissing
	}
	m.gone[number]++
	return m.given[number-1], api.OK
}

// call is one call of a link: its kind, and a letter's number, or to whom it goes and its bytes.
type call struct {
	kind, n int
	text    string
}

const kinds = 4

// answer is what a call answers, of whatever kind it is.
type answer struct {
	number int
	letter letter
	err    api.Errno
}

// of does the call at a link. What it hands in and what it is told are overwritten behind it.
func (c call) of(l *link.Link) answer {
	var a answer
	switch c.kind {
	case 0:
		b := []byte(c.text)
		a.number, a.err = l.Send(c.n, b)
		overwrite(b)
	case 1:
		a.number, a.err = l.Twice(c.n)
	case 2:
		x, e := l.Deliver(c.n)
		a.letter, a.err = told(x), e
		overwrite(x.Bytes)
	default:
		a.err = l.Drop(c.n)
	}
	return a
}

// told does the call at a model.
func (c call) told(m *model) answer {
	var a answer
	switch c.kind {
	case 0:
		a.number, a.err = m.send(c.n, c.text)
	case 1:
		a.number, a.err = m.twice(c.n)
	case 2:
		a.letter, a.err = m.remove(c.n)
	default:
		_, a.err = m.remove(c.n)
	}
	return a
}

// checkCalls does the calls one behind the other, and looks behind each of them. It answers how many of them were answered by each Errno.
func checkCalls(t *testing.T, calls []call) map[api.Errno]int {
	t.Helper()
	l, m := link.New(), newModel()
	counts := map[api.Errno]int{}
	for i, c := range calls {
		got, wanted := c.of(l), c.told(m)
		all := m.flight()
		if got != wanted || !slices.Equal(look(l), all) || !slices.Equal(slices.Collect(l.All()), numbersOf(all)) {
			t.Fatalf("%+v: %+v, and %v in flight; want %+v, and %v", calls[:i+1], got, look(l), wanted, all)
		}
		counts[got.err]++
	}
	return counts
}

// Every list of up to six out of a few calls.
func TestEveryShortListOfCalls(t *testing.T) {
	few := []call{
		{kind: 0, n: 1, text: "a"},
		{kind: 0, n: 2, text: "b"},
		{kind: 1, n: 1},
		{kind: 1, n: 2},
		{kind: 2, n: 1},
		{kind: 2, n: 3},
		{kind: 3, n: 1},
		{kind: 3, n: 2},
	}
	var grow func(calls []call)
	grow = func(calls []call) {
		if len(calls) == 6 {
			checkCalls(t, calls)
			return
		}
		for _, c := range few {
			grow(append(calls[:len(calls):len(calls)], c))
		}
	}
	grow(nil)
}

// turn is a plain row of numbers, the same at each run.
type turn uint32

func (r *turn) below(n int) int {
	*r = *r*1664525 + 1013904223
	return int(*r>>8) % n
}

// mixed answers count calls, of which so many in sixteen are sends.
func mixed(r *turn, count, sends int) []call {
	var calls []call
	given := 0
	for range count {
		c := call{kind: 1 + r.below(kinds-1), n: r.below(given+3) - 1}
		if r.below(16) < sends {
			c = call{kind: 0, n: r.below(2), text: string(some(r.below(20))) + strconv.Itoa(given)}
			given++
			if r.below(40) == 0 {
				c.n = 2
			}
		} else if r.below(3) > 0 {
			// One of those that were sent of late: it is likely in flight.
			c.n = max(c.n, given-r.below(8))
		}
		calls = append(calls, c)
	}
	return calls
}

func TestLongListsOfCalls(t *testing.T) {
	r := turn(6)
	for i := range 600 {
		checkCalls(t, mixed(&r, 100, 2+i%8))
	}
}

// Lists by which links are filled, and stay full or nearly so.
func TestListsOfCallsThatFillALink(t *testing.T) {
	r := turn(7)
	for _, sends := range []int{12, 14, 15} {
		if refused := checkCalls(t, mixed(&r, 1200, sends))[api.ErrLong]; refused < 20 {
			t.Errorf("%d sends in sixteen calls: the link was full at %d of them", sends, refused)
		}
	}
}

// Each number is given once, and delivered at most once, as what was sent.
func TestNumbersAreGivenAndDeliveredOnce(t *testing.T) {
	l := link.New()
	r := turn(8)
	origin := map[int]letter{} // of each number: to whom and what was sent
	delivered := map[int]int{}
	for i := range 20000 {
		number := r.below(len(origin)+2) - 1 + r.below(2)
		switch r.below(5) {
		case 0, 1:
			text := strconv.Itoa(i)
			if n, e := l.Send(i%2, []byte(text)); e == api.OK {
				given(t, origin, n, letter{n, i % 2, text})
			}
		case 2:
			if n, e := l.Twice(number); e == api.OK {
				given(t, origin, n, letter{n, origin[number].to, origin[number].text})
			}
		case 3:
			if x, e := l.Deliver(number); e == api.OK {
				delivered[number]++
				if told(x) != origin[number] || delivered[number] > 1 {
					t.Errorf("Deliver(%d), %d times: %v, not %v", number, delivered[number], told(x), origin[number])
				}
			}
		case 4:
			if l.Drop(number) == api.OK {
				delivered[number]++
			}
		}
	}
	if len(delivered) < 1000 || len(origin)-len(delivered) > room {
		t.Errorf("%d letters, %d of them gone", len(origin), len(delivered))
	}
}

func given(t *testing.T, origin map[int]letter, n int, x letter) {
	t.Helper()
	if _, again := origin[n]; again || n != len(origin)+1 {
		t.Errorf("the number %d is given, behind %d of them", n, len(origin))
	}
	origin[n] = x
}

func FuzzCalls(f *testing.F) {
	f.Add([]byte{0, 1, 0, 0, 1, 1, 2, 1, 2, 1, 3, 2, 3, 2, 0, 2, 1, 9})
	f.Fuzz(func(t *testing.T, b []byte) {
		var calls []call
		for ; len(b) >= 2 && len(calls) < 300; b = b[2:] {
			calls = append(calls, call{kind: int(b[0]) % kinds, n: int(int8(b[1])), text: string(some(int(b[0]) / kinds))})
		}
		checkCalls(t, calls)
	})
}

// Rule 5

func notMade() map[string]*link.Link {
	var declared link.Link
	return map[string]*link.Link{"nil": nil, "new": new(link.Link), "a literal": {}, "declared": &declared}
}

func TestCallsOfNoLink(t *testing.T) {
	for name, l := range notMade() {
		t.Run(name, func(t *testing.T) {
			checkNoLink(t, l)
			// Nothing makes a link of it.
			checkNoLink(t, l)
		})
	}
}

func checkNoLink(t *testing.T, l *link.Link) {
	t.Helper()
	for _, n := range []int{0, 1, 2, -1, 512, math.MinInt, math.MaxInt} {
		for _, b := range [][]byte{nil, {}, []byte("a")} {
			if number, e := l.Send(n, b); number != 0 || e != api.ErrNil {
				t.Errorf("Send(%d, %q): %d, %d", n, b, number, e)
			}
		}
		if x, e := l.Deliver(n); !isZero(x) || e != api.ErrNil {
			t.Errorf("Deliver(%d): %+v, %d", n, x, e)
		}
		if number, e := l.Twice(n); number != 0 || e != api.ErrNil {
			t.Errorf("Twice(%d): %d, %d", n, number, e)
		}
		want(t, "Drop", l.Drop(n), api.ErrNil)
	}
	if all := l.Flight(); all != nil {
		t.Errorf("Flight: %+v", all)
	}
	all := l.All()
	if all == nil {
		t.Fatal("All: nil")
	}
	for number := range all {
		t.Errorf("All: %d", number)
	}
}
