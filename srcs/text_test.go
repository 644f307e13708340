package srcs

import (
	"net/netip"
	"slices"
	"strings"
	"testing"

	"acequia/api"
)

// TestPrint is for P11.2.
func TestPrint(t *testing.T) {
	for _, x := range []struct {
		l    list
		want string
	}{
		{nil, "-"},
		{list{}, "-"},
		{list{{}}, "0.0.0.0"},
		{list{{V6: true}}, "::"},
		{list{{}, {V6: true}}, "0.0.0.0,::"},
		{ats("10.0.0.1"), "10.0.0.1"},
		{ats("10.0.0.1", "10.0.0.2", "255.255.255.255"), "10.0.0.1,10.0.0.2,255.255.255.255"},
		{ats("9.0.0.0", "10.0.0.0", "100.0.0.0"), "9.0.0.0,10.0.0.0,100.0.0.0"},
		{ats("ff02::16"), "ff02::16"},
		{ats("::1", "2001:db8::9", "ff02::16"), "::1,2001:db8::9,ff02::16"},
		{ats("10.0.0.1", "::1", "1:2:3:4:5:6:7:8"), "10.0.0.1,::1,1:2:3:4:5:6:7:8"},
	} {
		if got := Print(x.l); got != x.want {
			t.Errorf("Print(%v) = %q, not %q", x.l, got, x.want)
		}
		if got, err := Parse(x.want); err != api.OK || !slices.Equal(got, x.l) {
			t.Errorf("Parse(%q) = %v, %d", x.want, got, err)
		}
	}
}

// TestParseWrong is for P11.2: no text but one that Print writes is read.
func TestParseWrong(t *testing.T) {
	for _, s := range []string{
		"", " ", ",", ",,", "--", " -", "- ", "-\n", "\x00", "x", "none",
		",10.0.0.1", "10.0.0.1,", ",10.0.0.1,", "10.0.0.1,,10.0.0.2", ",,10.0.0.1", "10.0.0.1,,", "::1,", ",::1", "::1,,::2",
		" 10.0.0.1", "10.0.0.1 ", "10.0.0.1, 10.0.0.2", "10.0.0.1 ,10.0.0.2", "10.0.0.1 10.0.0.2", "10.0.0.1;10.0.0.2", "10.0.0.1\t", "10.0.0.1\n", "10.0.0.1,10.0.0.2\n", "10.0.0.1,\n10.0.0.2",
		"-,10.0.0.1", "10.0.0.1,-", "-10.0.0.1", "10.0.0.1-", "-,-", "-,", ",-", "10.0.0.1,-,10.0.0.2", "10.0.0.1-10.0.0.2",
		"10.0.0.2,10.0.0.1", "10.0.0.1,10.0.0.3,10.0.0.2", "10.0.0.2,10.0.0.1,10.0.0.3", "::2,::1", "::1,10.0.0.1", "10.0.0.1,::1,10.0.0.2", "10.0.0.0,9.0.0.0", "::10,::9", "ff02::1,fe80::1",
		"10.0.0.1,10.0.0.1", "::1,::1", "10.0.0.1,10.0.0.2,10.0.0.2", "10.0.0.1,10.0.0.1,10.0.0.2", "10.0.0.1,10.0.0.2,10.0.0.1", "::,::",
		"010.0.0.1", "10.0.0.01", "10.00.0.1", "10.0.0.1,10.0.0.02", "10.0.0.256", "10.0.0", "10.0.0.1.2", "10.0.0.1,10.0.0", "10.0.0.-1", "+10.0.0.1", "0x0a.0.0.1",
		"FF02::16", "ff02::1A", "2001:DB8::1", "ff02::016", "ff02::0001", "0ff::1:00", "10.0.0.1,FF02::16", "::A",
		"0:0:0:0:0:0:0:1", "ff02:0:0:0:0:0:0:16", "ff02::0:16", "0::1", "::0", "0::", "10.0.0.1,0:0:0:0:0:0:0:1", "1::2:3:4:5:6:7", "::ffff:10.0.0.1", "::10.0.0.1",
		"[::1]", "::1%eth0", "10.0.0.1/32", "::1/128", "10.0.0.1:80", "10.0.0.1，10.0.0.2", "{10.0.0.1}", "(10.0.0.1)", "in 10.0.0.1", "ex -",
	} {
		if got, err := Parse(s); len(got) > 0 || got != nil || err != api.ErrForm {
			t.Errorf("Parse(%q) = %v, %d", s, got, err)
		}
	}
}

// near are all texts that come from s by leaving out, by putting in or by replacing one character.
func near(s, letters string) []string {
	out := []string{s}
	for i := range len(s) + 1 {
		if i < len(s) {
			out = append(out, s[:i]+s[i+1:])
		}
		for _, c := range letters {
			out = append(out, s[:i]+string(c)+s[i:])
			if i < len(s) {
				out = append(out, s[:i]+string(c)+s[i+1:])
			}
		}
	}
	return out
}

// model is what Parse should tell: the pieces between commas are read by netip, which takes more forms than one but prints that one.
func model(s string) (list, api.Errno) {
	if s == "-" {
		return nil, api.OK
	}
	var out list
	for _, piece := range strings.Split(s, ",") {
		a, err := netip.ParseAddr(piece)
		if err != nil || a.Zone() != "" || a.String() != piece || a.Is4In6() {
			return nil, api.ErrForm
		}
		read := api.Addr{V6: true, B: a.As16()}
		if a.Is4() {
			four := a.As4()
			read = api.Addr{}
			copy(read.B[:], four[:])
		}
		out = append(out, read)
	}
	if !isSet(out) {
		return nil, api.ErrForm
	}
	return out, api.OK
}

// TestParseNear is for P11.2, over all texts that are one character away from ones that Print writes.
func TestParseNear(t *testing.T) {
	taken := 0
	for _, text := range []string{"-", "0.0.0.0", "10.0.0.1,10.0.0.2", "9.9.9.9,10.1.2.30,::1", "::,::1,1::", "1:2:3:4:5:6:7:8,ff02::1:0:0:fb", "0.0.0.0,255.255.255.255,ff02::16"} {
		for _, s := range near(text, "0129af.:,-AF ") {
			want, werr := model(s)
			got, err := Parse(s)
			if err != werr || !slices.Equal(got, want) {
				t.Errorf("Parse(%q) = %v, %d, not %v, %d", s, got, err, want, werr)
			}
			if err == api.OK {
				taken++
				if Print(got) != s {
					t.Errorf("Print of Parse of %q is %q", s, Print(got))
				}
			}
		}
	}
	if taken < 300 {
		t.Errorf("only %d texts were taken", taken)
	}
}

// TestParseLong is for P11.2: great texts that nothing is wrong with but one place.
func TestParseLong(t *testing.T) {
	for _, piece := range []string{",", "-", "0", ":", "10.0.0.1,", ",::1", "-,"} {
		if got, err := Parse(strings.Repeat(piece, 1<<18)); got != nil || err != api.ErrForm {
			t.Errorf("Parse of many %q = %d addresses, %d", piece, len(got), err)
		}
	}
}

// FuzzParse is for P11.2 and P11.3: whatever is read is a set whose Print is the text.
func FuzzParse(f *testing.F) {
	for _, s := range []string{"-", "", "10.0.0.1,10.0.0.2", "::1,ff02::16", "10.0.0.2,10.0.0.1", "10.0.0.1,"} {
		f.Add(s)
	}
	f.Fuzz(func(t *testing.T, s string) {
		got, err := Parse(s)
		want, werr := model(s)
		if err != werr || !slices.Equal(got, want) {
			t.Fatalf("Parse(%q) = %v, %d, not %v, %d", s, got, err, want, werr)
		}
		if err == api.OK && (Print(got) != s || !Good(got)) {
			t.Fatalf("Print of Parse of %q is %q", s, Print(got))
		}
	})
}
