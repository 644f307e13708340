package octet

// Reader goes through bytes once: what is left of them, how many were passed, and whether more were asked for than there were.
type Reader struct {
	rest string
	at   int
	bad  bool
}

// New is a reader at the beginning of s.
func New(s string) *Reader {
	return &Reader{rest: s}
}

// Num passes the next bytes, wide of them, and is the number that they hold.
func (r *Reader) Num(wide int) uint64 {
	return number(r.Take(clamp(wide, maxWide)))
}

// Take passes the next n bytes, and is these.
func (r *Reader) Take(n int) string {
	if r.Bad() {
		return ""
	}
	n = max(n, 0)
	if n > len(r.rest) {
		r.bad = true
		return ""
	}
	out := r.rest[:n]
	r.rest = r.rest[n:]
	r.at += n
	return out
}

// Rest is all bytes that were not passed yet.
func (r *Reader) Rest() string {
	if r == nil {
		return ""
	}
	return r.rest
}

// Left is how many bytes were not passed yet.
func (r *Reader) Left() int {
	return len(r.Rest())
}

// At is how many bytes were passed.
func (r *Reader) At() int {
	if r == nil {
		return 0
	}
	return r.at
}

// Bad is whether more was asked for than there was, or there is no reader at all.
func (r *Reader) Bad() bool {
	return r == nil || r.bad
}
