package frame_test

import (
	"bytes"
	"testing"

	"estuary/api"
	"estuary/frame"
)

// spoil changes bytes and the spare room behind them.
func spoil(b []byte) {
	b = b[:cap(b)]
	for i := range b {
		b[i]++ // twice is not undone, as an xor would be
	}
}

// P4.1: what is put is neither changed nor kept, and what is answered is the caller's own.
func TestPutStandsApart(t *testing.T) {
	whole := []byte("abcdefgh")
	body := whole[:3]
	one, _ := frame.Put(1, body)
	l := []api.Frame{{Kind: 2, Body: body}, {Kind: 3}, {Kind: 4, Body: body}}
	all, _ := frame.PutAll(l...)
	want1, want2 := bytes.Clone(one), bytes.Clone(all)
	if string(whole) != "abcdefgh" || !sameFrames(l, []api.Frame{{Kind: 2, Body: []byte("abc")}, {Kind: 3}, {Kind: 4, Body: []byte("abc")}}) {
		t.Errorf("handed in, now %s, %v", whole, l)
	}
	spoil(one)
	if string(whole) != "abcdefgh" || !bytes.Equal(all, want2) {
		t.Errorf("Put's answer is somebody else's, too: %s, % x", whole, all)
	}
	spoil(all)
	if string(whole) != "abcdefgh" {
		t.Errorf("PutAll's answer is somebody else's, too: %s", whole)
	}
	again, _ := frame.Put(1, body)
	spoil(body)
	if !bytes.Equal(again, want1) {
		t.Errorf("Put keeps the body: % x", again)
	}
}

// some frames as bytes with spare room, and what they are.
func laid() ([]byte, []api.Frame) {
	l := lists()[4]
	b, _ := frame.PutAll(l...)
	return roomy(b), l
}

// P4.2: Scan neither changes nor keeps what it is handed; its bodies are apart.
func TestScanStandsApart(t *testing.T) {
	b, l := laid()
	b = append(b, 1, 2)
	was := bytes.Clone(b[:cap(b)])
	got, _, _ := frame.Scan(b)
	again, _, _ := frame.Scan(b)
	for i := range got {
		spoil(got[i].Body)
		if !bytes.Equal(b[:cap(b)], was) || !sameFrames(got[i+1:], l[i+1:]) || !sameFrames(again, l) {
			t.Fatalf("body %d is not the caller's own", i)
		}
	}
	spoil(b)
	if !sameFrames(again, l) {
		t.Errorf("Scan keeps bytes: %v", again)
	}
}

// P4.2: All is of the bytes as they were when it was called, whatever becomes of them and of what it told.
func TestAllStandsApart(t *testing.T) {
	b, l := laid()
	was := bytes.Clone(b[:cap(b)])
	all := frame.All(b)
	other := frame.All(b)
	for range 2 {
		var got []api.Frame
		for _, f := range all {
			got = append(got, f)
		}
		for i := range got {
			spoil(got[i].Body)
			if !bytes.Equal(b[:cap(b)], was) || !sameFrames(got[i+1:], l[i+1:]) {
				t.Fatalf("body %d is not the caller's own", i)
			}
		}
	}
	clear(b)
	for _, seq := range []func(func(int, api.Frame) bool){all, other, all} {
		var got []api.Frame
		for _, f := range seq {
			got = append(got, api.Frame{Kind: f.Kind, Body: bytes.Clone(f.Body)})
			spoil(f.Body)
			spoil(b)
		}
		if !sameFrames(got, l) {
			t.Errorf("All of bytes that were changed behind the call: %v", got)
		}
	}
}

// P4.2: bytes that become frames behind the call are none of All's.
func TestAllOfBytesAsTheyWere(t *testing.T) {
	right, _ := laid()
	b := make([]byte, len(right))
	all := frame.All(b)
	copy(b, right)
	for at, f := range all {
		t.Errorf("%d, %v", at, f)
	}
}

// P4.2
func TestOneStandsApart(t *testing.T) {
	b := roomy(plain(9, []byte("abc")))
	was := bytes.Clone(b[:cap(b)])
	f, _ := frame.One(b)
	g, _ := frame.One(b)
	spoil(f.Body)
	if !bytes.Equal(b[:cap(b)], was) || string(g.Body) != "abc" {
		t.Errorf("One's body is somebody else's, too: % x, %s", b, g.Body)
	}
	spoil(b)
	if string(g.Body) != "abc" {
		t.Errorf("One keeps bytes: %s", g.Body)
	}
}
