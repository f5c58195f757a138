package calm_test

import (
	"reflect"
	"testing"

	"lagleash/api"
	"lagleash/calm"
	"lagleash/disk"
	"lagleash/frame"
	"lagleash/letter"
	"lagleash/link"
	"lagleash/page"
	"lagleash/world"
)

// The second telling: the measure of a fit world, out of what it tells, letters byte by byte.

// tellNode answers the node that is primary in the greatest epoch.
func tellNode(w *world.World) int {
	zero, _ := w.Page(0)
	one, _ := w.Page(1)
	switch {
	case one.Role == api.Primary && (zero.Role != api.Primary || one.Epoch > zero.Epoch):
		return 1
	case zero.Role == api.Primary:
		return 0
	}
	return -1
}

// tellMeasure is for epochs of one byte.
func tellMeasure(w *world.World) api.Measure {
	var m api.Measure
	node := tellNode(w)
	if node < 0 {
		return m
	}
	own, _ := w.Page(node)
	other, _ := w.Page(1 - node)
	switch other.Role {
	case api.Primary:
		m.Phases = 5
	case api.Deposed:
		m.Phases = 5 - int(other.Phase)
	}
	out, _, met := w.Memory(node)
	m.Out = out
	if met {
		return m
	}
	m.Shakes = 2
	for _, l := range w.Flight() {
		// Of a hello the kind 1, the epoch, the Role 2.
		if l.To == node && l.Bytes[0] == 1 && int(l.Bytes[1]) == own.Epoch && l.Bytes[2] == 2 {
			m.Shakes = 1
		}
	}
	return m
}

// Worlds as no acts make them: files and a link that were written to beside the acts.

// parts finds all of a kind in what is not exported of a world.
func parts[T any](t testing.TB, w *world.World) []*T {
	t.Helper()
	var found []*T
	var look func(v reflect.Value)
	look = func(v reflect.Value) {
		switch v.Kind() {
		case reflect.Struct:
			for _, x := range v.Fields() {
				look(x)
			}
		case reflect.Array:
			for i := range v.Len() {
				look(v.Index(i))
			}
		case reflect.Pointer:
			if v.Type() == reflect.TypeFor[*T]() {
				found = append(found, (*T)(v.UnsafePointer()))
			}
		}
	}
	look(reflect.ValueOf(w).Elem())
	return found
}

func setPage(t testing.TB, w *world.World, node int, p api.Page) {
	t.Helper()
	b, e := page.Encode(p)
	if e != api.OK {
		t.Fatalf("the page %+v is refused: %d", p, e)
	}
	b, _ = frame.Append(nil, b)
	d := parts[disk.Disk](t, w)[node]
	for _, e := range []api.Errno{d.Cut(api.FilePages, 0), d.Write(api.FilePages, b), d.Sync()} {
		if e != api.OK {
			t.Fatalf("the page %+v is refused: %d", p, e)
		}
	}
	if got, _ := w.Page(node); got != p {
		t.Fatalf("the page is %+v, not %+v", got, p)
	}
}

// sends puts bytes in flight.
func sends(t testing.TB, w *world.World, to int, b []byte) {
	t.Helper()
	if _, e := parts[link.Link](t, w)[0].Send(to, b); e != api.OK {
		t.Fatalf("%v is refused: %d", b, e)
	}
}

func bytesOf(t testing.TB, m api.Message) []byte {
	t.Helper()
	b, e := letter.Encode(m)
	if e != api.OK {
		t.Fatalf("%+v is refused: %d", m, e)
	}
	return b
}

func hello(epoch int, role api.Role) api.Message {
	return api.Message{Kind: api.Hello, Epoch: epoch, Role: role}
}

// P27.1: what in flight counts as a handshake, letter by letter, in small epochs and in great ones.
func TestShakesLetterByLetter(t *testing.T) {
	for _, epoch := range []int{2, 3, 127, 128, 300, mostNumber - 1} {
		for node := range 2 {
			begin := func() *world.World {
				w := newWorld(2)
				setPage(t, w, node, api.Page{Epoch: epoch, Role: api.Primary})
				setPage(t, w, 1-node, api.Page{Epoch: epoch, Role: api.Replica})
				return w
			}
			fits := bytesOf(t, hello(epoch, api.Replica))
			long := bytesOf(t, api.Message{Kind: api.Hello, Epoch: epoch, Role: api.Replica, End: 9, Starts: []api.Start{{Epoch: 1, First: 1}, {Epoch: 2, First: 4}}})
			for _, b := range [][]byte{fits, long} {
				w := begin()
				wantMeasure(t, w, of(0, 2, 0))
				sends(t, w, node, b)
				wantMeasure(t, w, of(0, 1, 0))
				sends(t, w, node, b)
				wantMeasure(t, w, of(0, 1, 0))
			}
			others := [][]byte{
				bytesOf(t, hello(epoch-1, api.Replica)), bytesOf(t, hello(epoch+1, api.Replica)), bytesOf(t, hello(1, api.Replica)),
				bytesOf(t, hello(epoch, api.Primary)), bytesOf(t, hello(epoch, api.Deposed)),
				bytesOf(t, api.Message{Kind: api.Ack, Epoch: epoch}), bytesOf(t, api.Message{Kind: api.Ack, Epoch: epoch, End: 2}),
				bytesOf(t, api.Message{Kind: api.Ship, Epoch: epoch, From: 1}), bytesOf(t, api.Message{Kind: api.Ship, Epoch: epoch, From: 2, Prev: 2}),
				nil, {}, {0}, {1}, {2}, fits[:len(fits)-1], append(append([]byte{}, fits...), 0),
			}
			all := begin()
			for _, b := range others {
				w := begin()
				sends(t, w, node, b)
				wantMeasure(t, w, of(0, 2, 0))
				sends(t, w, 1-node, fits)
				wantMeasure(t, w, of(0, 2, 0))
				sends(t, all, node, b)
				wantMeasure(t, all, of(0, 2, 0))
			}
			// One that fits is found wherever it stands.
			sends(t, all, node, fits)
			wantMeasure(t, all, of(0, 1, 0))
			sends(t, all, node, others[0])
			wantMeasure(t, all, of(0, 1, 0))
		}
	}
}

// P27.1: whose page counts, by pairs of pages; without a history all is 0.
func TestPairsOfPages(t *testing.T) {
	pages := []struct {
		p    api.Page
		left int
	}{
		{api.Page{Epoch: 1, Role: api.Primary}, 5},
		{api.Page{Epoch: 3, Role: api.Primary, Acked: 1}, 5},
		{api.Page{Epoch: 7, Role: api.Primary}, 5},
		{api.Page{Epoch: 1, Role: api.Replica}, 0},
		{api.Page{Epoch: 9, Role: api.Replica}, 0},
		{api.Page{Epoch: 2, Role: api.Deposed, Phase: api.Heard}, 4},
		{api.Page{Epoch: 3, Role: api.Deposed, Phase: api.Forked, Fork: 1, Base: 7}, 3},
		{api.Page{Epoch: 9, Role: api.Deposed, Phase: api.Filed}, 2},
		{api.Page{Epoch: 3, Role: api.Deposed, Phase: api.Cut, Fork: 1}, 1},
	}
	// One commit is out at the node 0; the node 1 has none, as it is no primary.
	for _, zero := range pages {
		for _, one := range pages {
			w := stand(t, 2, commits(0, put("a", "1")))
			setPage(t, w, 0, zero.p)
			setPage(t, w, 1, one.p)
			want := rest
			switch tellNode(w) {
			case 0:
				want = of(one.left, 2, 1)
			case 1:
				want = of(zero.left, 2, 0)
			}
			wantMeasure(t, w, want)
			if m := tellMeasure(w); m != want {
				t.Errorf("%+v, %+v: %+v, not %+v", zero.p, one.p, m, want)
			}
			if tellNode(w) < 0 {
				wantSettle(t, w, 9, 0, rest)
			}
		}
	}
}

// P27.4: a world that never comes to rest, as its page was written beside the acts: just so many rounds are done.
func TestSettleEnds(t *testing.T) {
	for _, most := range []int{0, 1, 2, 100, mostRounds - 1, mostRounds} {
		w := stand(t, 2, acked()...)
		setPage(t, w, 1, api.Page{Epoch: 1, Role: api.Deposed, Phase: api.Filed, Fork: 2})
		twin := stand(t, 2, acked()...)
		wantSettle(t, w, most, most, of(2, 0, 0))
		for range most {
			do(t, twin, rounds())
		}
		last, want := w.Flight(), twin.Flight()
		if len(last) != len(want) || len(last) > 0 && last[len(last)-1].Number != want[len(want)-1].Number {
			t.Errorf("P27.4: %d rounds: %s, not %s", most, short(last), short(want))
		}
		if n, m, e := calm.Settle(w, mostRounds+1); n != 0 || m != rest || e != errArg {
			t.Errorf("P27.4: %d, %+v, %d", n, m, e)
		}
	}
}
