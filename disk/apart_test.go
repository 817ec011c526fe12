package disk_test

import (
	"bytes"
	"testing"

	"estuary/api"
	"estuary/disk"
)

// spoil changes bytes and the spare room behind them.
func spoil(b []byte) {
	b = b[:cap(b)]
	for i := range b {
		b[i]++ // twice is not undone, as an xor would be
	}
}

// roomy is these bytes with spare room behind them.
func roomy(b ...byte) []byte { return append(make([]byte, 0, len(b)+8), b...) }

// TestHandedIn: bytes that were handed in are not kept, and not changed (P3.1, P3.2).
func TestHandedIn(t *testing.T) {
	first, second, laid := roomy(1, 2), roomy(3), roomy(4, 5)
	d, _ := disk.Of(6, 0, first, second)
	d.Lay(0, laid)
	d.Lay(0, []byte{6})
	d.Clear(1)
	d.Lay(1, laid)
	d.Lay(1, []byte{7, 8})
	for _, x := range []struct{ got, want []byte }{
		{first, []byte{1, 2, 0, 0, 0, 0, 0, 0, 0, 0}},
		{second, []byte{3, 0, 0, 0, 0, 0, 0, 0, 0}},
		{laid, []byte{4, 5, 0, 0, 0, 0, 0, 0, 0, 0}},
	} {
		if got := x.got[:cap(x.got)]; !bytes.Equal(got, x.want) {
			t.Errorf("changed: %v; want %v", got, x.want)
		}
	}
	spoil(first)
	spoil(second)
	spoil(laid)
	m := model{capacity: 6, data: [2][]byte{{1, 2}, {3}}, writes: []api.Write{lay(0, 4, 5), lay(0, 6), empty(1), lay(1, 4, 5), lay(1, 7, 8)}}
	holds(t, "handed in", d, m, 5)
	for n := range 6 {
		c, _ := d.Cut(n)
		holds(t, "cut", c, m, n)
	}
}

// TestTold: bytes that were told are new ones each time: changing them changes no disk (P3.3).
func TestTold(t *testing.T) {
	for _, m := range models() {
		d := built(t, m)
		cut := d.Copy()
		all := d.All()
		for range 2 {
			for i := range 2 {
				b, _ := d.Area(i)
				spoil(b)
			}
			for i := range m.writes {
				w, _ := d.Write(i)
				spoil(w.Data)
			}
			for _, w := range all {
				spoil(w.Data)
			}
			holds(t, "told", d, m, len(m.writes))
		}
		holds(t, "copied ahead", cut, m, len(m.writes))
		holds(t, "copied behind", d.Copy(), m, len(m.writes))
	}
}

// TestApart: cuts, copies and the disk itself go on apart, also where their bytes and raw writes have a front in common (P3.4).
func TestApart(t *testing.T) {
	for _, m := range models() {
		d := built(t, m)
		for n := range len(m.writes) + 1 {
			one, _ := d.Cut(n)
			two, _ := d.Cut(n)
			three := one.Copy()
			tail := func(v byte) []api.Write {
				return []api.Write{empty(0), lay(0, v), turn(), lay(1), empty(1), lay(1, v)}
			}
			goOn := func(c *disk.Disk, v byte) model {
				longer := model{m.capacity, m.used, m.data, append(m.writes[:n:n], tail(v)...)}
				for _, w := range tail(v) {
					if e := do(c, w); e != api.OK {
						t.Error(w, e)
					}
				}
				return longer
			}
			first := goOn(one, 101)
			third := goOn(three, 103)
			second := goOn(two, 102)
			holds(t, "first cut", one, first, n+6)
			holds(t, "second cut", two, second, n+6)
			holds(t, "copy of a cut", three, third, n+6)
			holds(t, "disk", d, m, len(m.writes))
		}
	}
}

// TestBehindOneFront: bytes laid to a disk and to its cut behind the same bytes do not meet (P3.4).
func TestBehindOneFront(t *testing.T) {
	m := model{capacity: 64, data: [2][]byte{{1, 2, 3}, {4}}, writes: []api.Write{lay(0, 5), lay(0, 6)}}
	d := built(t, m)
	c, k := d.Copy(), d.Copy()
	longer := func(x *disk.Disk, v byte) model {
		x.Lay(0, []byte{v})
		x.Lay(1, []byte{v, v})
		return model{m.capacity, m.used, m.data, append(m.writes[:2:2], lay(0, v), lay(1, v, v))}
	}
	md, mc, mk := longer(d, 20), longer(c, 21), longer(k, 22)
	holds(t, "disk", d, md, 4)
	holds(t, "copy", c, mc, 4)
	holds(t, "other copy", k, mk, 4)
	again, _ := d.Cut(0)
	holds(t, "beginning", again, md, 0)
}

// TestSame: capacity, area in use, and bytes are asked, raw writes are not (P3.4).
func TestSame(t *testing.T) {
	of := func(capacity, used int, first, second []byte) *disk.Disk {
		d, e := disk.Of(capacity, used, first, second)
		if e != api.OK {
			t.Fatal(e)
		}
		return d
	}
	a := of(4, 0, []byte{1, 2}, []byte{3})
	for i, b := range []*disk.Disk{
		of(5, 0, []byte{1, 2}, []byte{3}),
		of(4, 1, []byte{1, 2}, []byte{3}),
		of(4, 0, []byte{1, 9}, []byte{3}),
		of(4, 0, []byte{1, 2, 0}, []byte{3}),
		of(4, 0, []byte{1}, []byte{3}),
		of(4, 0, []byte{1, 2}, []byte{4}),
		of(4, 0, []byte{1, 2}, nil),
		of(4, 0, []byte{3}, []byte{1, 2}),
		nil,
		{},
	} {
		if disk.Same(a, b) || disk.Same(b, a) {
			t.Error("Same", i)
		}
	}
	b, _ := disk.New(4)
	for _, w := range []api.Write{turn(), lay(0, 7), empty(0), lay(0, 1), lay(0, 2), lay(1, 3), turn()} {
		do(b, w)
	}
	if !disk.Same(a, a) || !disk.Same(a, b) || !disk.Same(b, a) {
		t.Error("raw writes are asked")
	}
	if !disk.Same(of(4, 0, nil, []byte{}), of(4, 0, []byte{}, nil)) {
		t.Error("no bytes and no bytes")
	}
	if e := a.Lay(1, nil); e != api.OK || !disk.Same(a, b) {
		t.Error("a Lay of no bytes is asked")
	}
	nothing := []*disk.Disk{nil, {}, {}}
	for _, x := range nothing {
		for _, y := range nothing {
			if !disk.Same(x, y) {
				t.Error("nil and zero ones")
			}
		}
	}
}
