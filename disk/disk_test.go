package disk_test

import (
	"bytes"
	"math"
	"slices"
	"testing"

	"estuary/api"
	"estuary/disk"
)

// model is a disk as the chapter's words tell it: a beginning, and the raw writes that were done since.
type model struct {
	capacity, used int
	data           [2][]byte
	writes         []api.Write
}

// after is how the model stands after n raw writes.
func (m model) after(n int) model {
	now := model{capacity: m.capacity, used: m.used, writes: m.writes[:n:n]}
	for i := range m.data {
		now.data[i] = slices.Clone(m.data[i])
	}
	for _, w := range m.writes[:n] {
		switch w.Kind {
		case api.WriteLay:
			now.data[w.Area] = append(now.data[w.Area], w.Data...)
		case api.WriteClear:
			now.data[w.Area] = nil
		case api.WriteTurn:
			now.used = (now.used + 1) % 2
		}
	}
	return now
}

// made is the disk that the model begins with.
func (m model) made(t *testing.T) *disk.Disk {
	t.Helper()
	d, e := disk.Of(m.capacity, m.used, m.data[0], m.data[1])
	if d == nil || e != api.OK {
		t.Fatal("Of", d, e)
	}
	return d
}

// do does a raw write by the disk's own call.
func do(d *disk.Disk, w api.Write) api.Errno {
	switch w.Kind {
	case api.WriteLay:
		return d.Lay(w.Area, w.Data)
	case api.WriteClear:
		return d.Clear(w.Area)
	case api.WriteTurn:
		return d.Turn()
	}
	return -1
}

func equal(a, b api.Write) bool {
	return a.Kind == b.Kind && a.Area == b.Area && bytes.Equal(a.Data, b.Data)
}

// holds holds all that can be asked of a disk against how the model stands after n raw writes.
func holds(t *testing.T, what string, d *disk.Disk, m model, n int) {
	t.Helper()
	want := m.after(n)
	if d.Used() != want.used || d.Writes() != n {
		t.Errorf("%s: used %d, writes %d; want %d, %d", what, d.Used(), d.Writes(), want.used, n)
	}
	for i := range want.data {
		b, e := d.Area(i)
		if !bytes.Equal(b, want.data[i]) || e != api.OK {
			t.Errorf("%s: area %d: %v, %v; want %v", what, i, b, e, want.data[i])
		}
		if r := d.Room(i); r != want.capacity-len(want.data[i]) {
			t.Errorf("%s: room %d: %d; want %d", what, i, r, want.capacity-len(want.data[i]))
		}
	}
	for i, w := range want.writes {
		got, e := d.Write(i)
		if !equal(got, w) || e != api.OK {
			t.Errorf("%s: write %d: %v, %v; want %v", what, i, got, e, w)
		}
	}
	next := 0
	for i, w := range d.All() {
		if i != next || i >= n || !equal(w, want.writes[i]) {
			t.Errorf("%s: All tells %d, %v", what, i, w)
		}
		next++
	}
	if next != n {
		t.Errorf("%s: All tells %d; want %d", what, next, n)
	}
}

func lay(area int, b ...byte) api.Write {
	return api.Write{Kind: api.WriteLay, Area: area, Data: b}
}

func empty(area int) api.Write { return api.Write{Kind: api.WriteClear, Area: area} }

func turn() api.Write { return api.Write{Kind: api.WriteTurn} }

// models are disks with raw writes of all kinds on both areas: of capacities 1 and more, from empty and from laid beginnings.
func models() []model {
	long := bytes.Repeat([]byte{7, 8, 9}, 1000)
	return []model{
		{capacity: 5},
		{capacity: 5, writes: []api.Write{lay(0, 1, 2, 3), lay(1, 9), turn(), empty(0)}},
		{capacity: 1, used: 1, writes: []api.Write{lay(0, 1), empty(0), lay(0, 2), turn(), lay(1, 3), turn(), turn(), empty(1), lay(1), lay(1, 4)}},
		{capacity: 4, used: 1, data: [2][]byte{{1, 2, 3, 4}, {5}}, writes: []api.Write{lay(0), lay(1, 6, 7), lay(1, 8), empty(0), turn(), lay(0, 9), lay(0, 10), empty(1), empty(1), lay(0, 11, 12), turn(), lay(1, 13)}},
		{capacity: api.MaxBytes, data: [2][]byte{long, nil}, writes: []api.Write{lay(0, long...), lay(1, long[1:]...), turn(), empty(0), lay(0, 1), lay(1, 2), turn(), turn()}},
	}
}

// built is the model's disk after all of its raw writes.
func built(t *testing.T, m model) *disk.Disk {
	t.Helper()
	d := m.made(t)
	for i, w := range m.writes {
		if e := do(d, w); e != api.OK {
			t.Fatalf("write %d, %v: %v", i, w, e)
		}
	}
	return d
}

// TestExamples: the chapter's examples (P3.1 to P3.4).
func TestExamples(t *testing.T) {
	if d, e := disk.New(0); d != nil || e != api.ErrArg {
		t.Error("New(0)", d, e)
	}
	d, e := disk.New(5)
	if e != api.OK {
		t.Fatal("New(5)", e)
	}
	got := []api.Errno{d.Lay(0, []byte{1, 2, 3}), d.Lay(0, []byte{4, 5, 6}), d.Lay(2, []byte{1})}
	if !slices.Equal(got, []api.Errno{api.OK, api.ErrFull, api.ErrArg}) || d.Room(0) != 2 {
		t.Error("Lay", got, d.Room(0))
	}
	got = []api.Errno{d.Lay(1, []byte{9}), d.Turn(), d.Clear(0)}
	if !slices.Equal(got, []api.Errno{api.OK, api.OK, api.OK}) {
		t.Error("Lay, Turn, Clear", got)
	}
	m := model{capacity: 5, writes: []api.Write{lay(0, 1, 2, 3), lay(1, 9), turn(), empty(0)}}
	holds(t, "example", d, m, 4)
	c, e := d.Cut(1)
	if e != api.OK {
		t.Fatal("Cut(1)", e)
	}
	holds(t, "cut", c, m, 1)
	if c, e := d.Cut(5); c != nil || e != api.ErrArg {
		t.Error("Cut(5)", c, e)
	}
	if w, e := d.Write(2); !equal(w, turn()) || e != api.OK {
		t.Error("Write(2)", w, e)
	}
	if w, e := d.Write(4); !equal(w, api.Write{}) || e != api.ErrArg {
		t.Error("Write(4)", w, e)
	}
}

// TestNew: capacities that may be, and that may not (P3.1).
func TestNew(t *testing.T) {
	for _, capacity := range []int{1, 2, api.MaxBytes - 1, api.MaxBytes} {
		d, e := disk.New(capacity)
		if e != api.OK {
			t.Fatal("New", capacity, e)
		}
		holds(t, "new", d, model{capacity: capacity}, 0)
	}
	for _, capacity := range []int{0, -1, math.MinInt, api.MaxBytes + 1, math.MaxInt} {
		if d, e := disk.New(capacity); d != nil || e != api.ErrArg {
			t.Error("New", capacity, d, e)
		}
		if d, e := disk.Of(capacity, 0, nil, nil); d != nil || e != api.ErrArg {
			t.Error("Of", capacity, d, e)
		}
	}
}

// TestOf: a disk with bytes, as many as it may have and one more (P3.1).
func TestOf(t *testing.T) {
	three, four := []byte{1, 2, 3}, []byte{4, 5, 6, 7}
	for used := range 2 {
		for _, data := range [][2][]byte{{nil, nil}, {{}, three}, {three, nil}, {three, {9}}} {
			m := model{capacity: 3, used: used, data: data}
			holds(t, "of", m.made(t), m, 0)
		}
		for _, data := range [][2][]byte{{four, nil}, {nil, four}, {three, four}, {four, four}} {
			if d, e := disk.Of(3, used, data[0], data[1]); d != nil || e != api.ErrFull {
				t.Error("Of", used, data, d, e)
			}
		}
	}
	full := make([]byte, api.MaxBytes)
	m := model{capacity: api.MaxBytes, data: [2][]byte{full, full}}
	holds(t, "full", m.made(t), m, 0)
	if d, e := disk.Of(api.MaxBytes, 0, nil, make([]byte, api.MaxBytes+1)); d != nil || e != api.ErrFull {
		t.Error("one byte too many", d, e)
	}
	for _, used := range []int{-1, 2, math.MinInt, math.MaxInt} {
		for _, b := range [][]byte{nil, four} { // a wrong area is named ahead of too many bytes
			if d, e := disk.Of(3, used, b, b); d != nil || e != api.ErrArg {
				t.Error("Of", used, b, d, e)
			}
		}
	}
	if d, e := disk.Of(0, 0, four, nil); d != nil || e != api.ErrArg {
		t.Error("no capacity, and too many bytes", d, e)
	}
}

// TestSteps: each raw write leaves the disk as the model says, one by one (P3.2, P3.3).
func TestSteps(t *testing.T) {
	for _, m := range models() {
		d := m.made(t)
		holds(t, "made", d, m, 0)
		for i, w := range m.writes {
			if e := do(d, w); e != api.OK {
				t.Errorf("write %d, %v: %v", i, w, e)
			}
			holds(t, "step", d, m, i+1)
		}
	}
}

// TestFull: an area just full takes no byte more, but no bytes, and is empty behind Clear (P3.2).
func TestFull(t *testing.T) {
	for _, capacity := range []int{1, 2, 7, api.MaxBytes} {
		b := bytes.Repeat([]byte{3}, capacity+1)
		for area := range 2 {
			d, _ := disk.New(capacity)
			if e := d.Lay(area, b); e != api.ErrFull {
				t.Error("one too many at once", capacity, e)
			}
			if e := d.Lay(area, b[:capacity-1]); e != api.OK {
				t.Error("all but one", capacity, e)
			}
			if e := d.Lay(area, b[:2]); e != api.ErrFull {
				t.Error("one too many behind others", capacity, e)
			}
			if e := d.Lay(area, b[:1]); e != api.OK || d.Room(area) != 0 || d.Room(1-area) != capacity {
				t.Error("just full", capacity, e, d.Room(area), d.Room(1-area))
			}
			if e := d.Lay(area, b[:1]); e != api.ErrFull {
				t.Error("a byte to a full one", capacity, e)
			}
			if e := d.Lay(area, nil); e != api.OK || d.Writes() != 3 {
				t.Error("no bytes to a full one", capacity, e, d.Writes())
			}
			if e := d.Lay(1-area, b[:capacity]); e != api.OK {
				t.Error("the other area", capacity, e)
			}
			if e := d.Clear(area); e != api.OK || d.Room(area) != capacity || d.Room(1-area) != 0 {
				t.Error("cleared", capacity, e, d.Room(area), d.Room(1-area))
			}
			if e := d.Lay(area, b[:capacity]); e != api.OK {
				t.Error("laid anew", capacity, e)
			}
		}
	}
}

// TestNoBytes: a Lay of no bytes counts, nil and empty alike (P3.2).
func TestNoBytes(t *testing.T) {
	d, _ := disk.New(1)
	if e := d.Lay(1, nil); e != api.OK {
		t.Error(e)
	}
	if e := d.Lay(0, []byte{}); e != api.OK {
		t.Error(e)
	}
	holds(t, "no bytes", d, model{capacity: 1, writes: []api.Write{lay(1), lay(0)}}, 2)
}

// none are areas that are none.
var none = []int{-1, 2, 3, -2, math.MinInt, math.MaxInt}

// TestRefused: a refused call answers its error, nothing beside it, and leaves the disk as it was (P3.2 to P3.4).
func TestRefused(t *testing.T) {
	for _, m := range models() {
		d := built(t, m)
		tooMany := make([]byte, m.capacity+1)
		for _, area := range none {
			for _, b := range [][]byte{nil, {1}, tooMany} { // a wrong area is named ahead of too many bytes
				if e := d.Lay(area, b); e != api.ErrArg {
					t.Error("Lay", area, len(b), e)
				}
			}
			if e := d.Clear(area); e != api.ErrArg {
				t.Error("Clear", area, e)
			}
			if b, e := d.Area(area); b != nil || e != api.ErrArg {
				t.Error("Area", area, b, e)
			}
			if r := d.Room(area); r != 0 {
				t.Error("Room", area, r)
			}
		}
		for area := range 2 {
			if e := d.Lay(area, tooMany[:d.Room(area)+1]); e != api.ErrFull {
				t.Error("Lay", area, e)
			}
		}
		for _, n := range []int{-1, math.MinInt, len(m.writes), len(m.writes) + 1, math.MaxInt} {
			w, e := d.Write(n)
			if w.Kind != 0 || w.Area != 0 || w.Data != nil || e != api.ErrArg {
				t.Error("Write", n, w, e)
			}
			if n == len(m.writes) {
				continue
			}
			if c, e := d.Cut(n); c != nil || e != api.ErrArg {
				t.Error("Cut", n, c, e)
			}
		}
		holds(t, "refused", d, m, len(m.writes))
	}
}

// TestNil: nil and zero disks (P3.2 to P3.4).
func TestNil(t *testing.T) {
	for _, d := range []*disk.Disk{nil, {}, new(disk.Disk)} {
		for _, area := range []int{0, 1, -1, 2} { // ErrNil is named ahead of all others
			for _, b := range [][]byte{nil, {}, {1}} {
				if e := d.Lay(area, b); e != api.ErrNil {
					t.Error("Lay", area, e)
				}
			}
			if e := d.Clear(area); e != api.ErrNil {
				t.Error("Clear", area, e)
			}
			if b, e := d.Area(area); b != nil || e != api.ErrNil {
				t.Error("Area", area, b, e)
			}
			if r := d.Room(area); r != 0 {
				t.Error("Room", area, r)
			}
			if w, e := d.Write(area); !equal(w, api.Write{}) || e != api.ErrNil {
				t.Error("Write", area, w, e)
			}
			if c, e := d.Cut(area); c != nil || e != api.ErrNil {
				t.Error("Cut", area, c, e)
			}
		}
		if e := d.Turn(); e != api.ErrNil {
			t.Error("Turn", e)
		}
		if d.Used() != 0 || d.Writes() != 0 || d.Copy() != nil {
			t.Error("looking", d.Used(), d.Writes(), d.Copy())
		}
		all := d.All()
		if all == nil {
			t.Fatal("All is not there")
		}
		for i, w := range all {
			t.Error("All tells", i, w)
		}
	}
}

// TestAllLeft: All may be left anywhere, and gone over again (P3.3).
func TestAllLeft(t *testing.T) {
	for _, m := range models() {
		d := built(t, m)
		all := d.All()
		for stop := range m.writes {
			for i, w := range all {
				if i > stop || !equal(w, m.writes[i]) {
					t.Fatal("All tells", i, w)
				}
				if i == stop {
					break
				}
			}
		}
		for range 2 {
			var told []api.Write
			for _, w := range all {
				told = append(told, w)
			}
			if !slices.EqualFunc(told, m.writes, equal) {
				t.Error("gone over again", told)
			}
		}
		holds(t, "left", d, m, len(m.writes))
	}
}

// TestAllWhenCalled: All tells the raw writes that were done when it was called, not later ones, be they done ahead of going over it or in the middle of that (P3.3).
func TestAllWhenCalled(t *testing.T) {
	for _, m := range models() {
		d := m.made(t)
		var alls []func(func(int, api.Write) bool)
		for _, w := range m.writes {
			alls = append(alls, d.All())
			do(d, w)
		}
		for n, all := range alls {
			count := 0
			for i, w := range all {
				if i != count || !equal(w, m.writes[i]) {
					t.Error("All tells", i, w)
				}
				d.Turn()
				count++
			}
			if count != n {
				t.Errorf("All called behind %d tells %d", n, count)
			}
		}
	}
}

// TestCut: a cut is the disk on which just these raw writes were done, and leaves the disk as it was (P3.4).
func TestCut(t *testing.T) {
	for _, m := range models() {
		d := built(t, m)
		fresh := m.made(t)
		for n := range len(m.writes) + 1 {
			c, e := d.Cut(n)
			if e != api.OK {
				t.Fatal("Cut", n, e)
			}
			if c == d {
				t.Fatal("Cut is no other disk")
			}
			holds(t, "cut", c, m, n)
			if !disk.Same(c, fresh) || !disk.Same(fresh, c) {
				t.Error("another one than just these raw writes make", n)
			}
			if n < len(m.writes) {
				do(fresh, m.writes[n])
			}
		}
		holds(t, "behind the cuts", d, m, len(m.writes))
	}
}

// TestCutOfCut: a Cut of a Cut at fewer is the Cut at these; at more it is none (P3.4, P3.5).
func TestCutOfCut(t *testing.T) {
	for _, m := range models() {
		d := built(t, m)
		for n := range len(m.writes) + 1 {
			c, _ := d.Cut(n)
			for k := range n + 1 {
				cc, e := c.Cut(k)
				if e != api.OK {
					t.Fatal("Cut", n, k, e)
				}
				holds(t, "cut of a cut", cc, m, k)
			}
			if cc, e := c.Cut(n + 1); cc != nil || e != api.ErrArg {
				t.Error("Cut of a Cut at more", cc, e)
			}
		}
	}
}

// TestCopy: Copy, and Cut at Writes, are the disk (P3.4, P3.5).
func TestCopy(t *testing.T) {
	for _, m := range models() {
		d := built(t, m)
		copied := d.Copy()
		cut, _ := d.Cut(d.Writes())
		if copied == nil || copied == d || cut == d || !disk.Same(copied, d) || !disk.Same(cut, d) {
			t.Error("Copy", copied == d)
		}
		holds(t, "copy", copied, m, len(m.writes))
		holds(t, "cut at Writes", cut, m, len(m.writes))
	}
}

// TestAllAgain: what All tells, done to a disk made as this one was, is this disk (P3.5).
func TestAllAgain(t *testing.T) {
	for _, m := range models() {
		d, again := built(t, m), m.made(t)
		for _, w := range d.All() {
			if e := do(again, w); e != api.OK {
				t.Error(w, e)
			}
		}
		if !disk.Same(d, again) {
			t.Error("another disk")
		}
		holds(t, "again", again, m, len(m.writes))
	}
}
