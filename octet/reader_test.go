package octet

import (
	"math"
	"testing"
)

// standing checks all that a reader tells without advancing.
func standing(t *testing.T, r *Reader, rest string, at int, bad bool) {
	t.Helper()
	if r.Rest() != rest || r.Left() != len(rest) || r.At() != at || r.Bad() != bad {
		t.Errorf("rest %q, left %d, at %d, bad %v; not %q, %d, %d, %v", r.Rest(), r.Left(), r.At(), r.Bad(), rest, len(rest), at, bad)
	}
}

func TestReader(t *testing.T) {
	r := New("\x01\x02abc\x00\x00\x00\x00\x00\x00\x00\x09z")
	standing(t, r, "\x01\x02abc\x00\x00\x00\x00\x00\x00\x00\x09z", 0, false)
	if n := r.Num(2); n != 258 {
		t.Error("num of two", n)
	}
	standing(t, r, "abc\x00\x00\x00\x00\x00\x00\x00\x09z", 2, false)
	if s := r.Take(3); s != "abc" {
		t.Errorf("take %q", s)
	}
	if n := r.Num(8); n != 9 {
		t.Error("num of eight", n)
	}
	standing(t, r, "z", 13, false)
	if s := r.Take(1); s != "z" {
		t.Errorf("take %q", s)
	}
	standing(t, r, "", 14, false)
}

func TestReaderWidths(t *testing.T) {
	const s = "\x01\x02\x03\x04\x05\x06\x07\x08\x09\x0a"
	for _, x := range []struct {
		wide int
		want uint64
		at   int
	}{
		{math.MinInt, 0, 0}, {-1, 0, 0}, {0, 0, 0}, {1, 1, 1}, {2, 0x0102, 2}, {7, 0x01020304050607, 7},
		{8, 0x0102030405060708, 8}, {9, 0x0102030405060708, 8}, {math.MaxInt, 0x0102030405060708, 8},
	} {
		r := New(s)
		if got := r.Num(x.wide); got != x.want {
			t.Errorf("Num(%d) = %#x", x.wide, got)
		}
		standing(t, r, s[x.at:], x.at, false)
	}
}

func TestReaderTakes(t *testing.T) {
	for _, x := range []struct {
		n    int
		want string
		bad  bool
	}{
		{math.MinInt, "", false}, {-1, "", false}, {0, "", false}, {1, "a", false}, {3, "abc", false},
		{4, "", true}, {math.MaxInt, "", true},
	} {
		r := New("abc")
		if got := r.Take(x.n); got != x.want {
			t.Errorf("Take(%d) = %q", x.n, got)
		}
		standing(t, r, "abc"[len(x.want):], len(x.want), x.bad)
	}
}

// TestReaderAtEnd asks for nothing at the end, which is not too much, and then for more.
func TestReaderAtEnd(t *testing.T) {
	r := New("ab")
	if r.Take(2) != "ab" || r.Take(0) != "" || r.Take(-3) != "" || r.Num(0) != 0 || r.Num(-3) != 0 {
		t.Error("at the end")
	}
	standing(t, r, "", 2, false)
	if r.Num(1) != 0 {
		t.Error("beyond the end")
	}
	standing(t, r, "", 2, true)
	empty := New("")
	standing(t, empty, "", 0, false)
	if empty.Take(1) != "" {
		t.Error("of nothing")
	}
	standing(t, empty, "", 0, true)
}

// TestBadReader makes a reader bad by Num or by Take, and asks for what would be there.
func TestBadReader(t *testing.T) {
	for _, spoil := range []struct {
		name string
		do   func(r *Reader) bool
	}{
		{"num", func(r *Reader) bool { return r.Num(4) == 0 }},
		{"num beyond eight", func(r *Reader) bool { return r.Num(9) == 0 }},
		{"take", func(r *Reader) bool { return r.Take(4) == "" }},
		{"take of very many", func(r *Reader) bool { return r.Take(math.MaxInt) == "" }},
	} {
		r := New("abcde")
		if r.Take(2) != "ab" || !spoil.do(r) {
			t.Error(spoil.name, "answered something")
		}
		standing(t, r, "cde", 2, true)
		for range 3 {
			if r.Num(1) != 0 || r.Num(0) != 0 || r.Num(-1) != 0 || r.Take(1) != "" || r.Take(0) != "" || r.Take(-1) != "" {
				t.Error(spoil.name, "then answered something")
			}
			standing(t, r, "cde", 2, true)
		}
	}
}

func TestNilReader(t *testing.T) {
	var r *Reader
	if r.Num(1) != 0 || r.Num(0) != 0 || r.Num(-1) != 0 || r.Take(1) != "" || r.Take(0) != "" || r.Take(-1) != "" {
		t.Error("answered something")
	}
	standing(t, r, "", 0, true)
}

// TestReadersApart goes through one text with two readers.
func TestReadersApart(t *testing.T) {
	const s = "abcd"
	one, two := New(s), New(s)
	if one.Take(3) != "abc" || one.Take(3) != "" {
		t.Error("one")
	}
	standing(t, one, "d", 3, true)
	standing(t, two, s, 0, false)
	if two.Num(2) != 'a'<<8|'b' {
		t.Error("two")
	}
	standing(t, two, "cd", 2, false)
}

// TestNumOfPut reads what Put wrote, one number after the other.
func TestNumOfPut(t *testing.T) {
	for _, n := range numbers() {
		s := ""
		for wide := range 9 {
			s += Put(n, wide)
		}
		r := New(s)
		for wide := range 9 {
			if got := r.Num(wide); got != Bits(n, 0, 8*wide) {
				t.Errorf("Num(%d) of %#x = %#x", wide, n, got)
			}
		}
		standing(t, r, "", len(s), false)
	}
}
