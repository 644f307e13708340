package filter

import (
	"slices"
	"strings"
	"testing"

	"acequia/addr"
	"acequia/api"
)

// list are addresses.
type list = []api.Addr

// source is the address that the letter c stands for: of IPv4 if c is a digit, or else of IPv6.
func source(c byte) api.Addr {
	if '0' <= c && c <= '9' {
		return addr.Ip4(10, 0, 0, c-'0')
	}
	return api.Addr{V6: true, B: [16]byte{0: 0xfd, 15: c - 'a'}}
}

// listed are the addresses that the letters of s stand for, in the order in which they stand.
func listed(s string) list {
	var out list
	for i := range len(s) {
		out = append(out, source(s[i]))
	}
	return out
}

// onlyText is the state that lets the sources on through.
func onlyText(on string) api.State {
	return api.State{On: listed(on)}
}

// exceptText is the state that lets all but the sources off through, and where the timers of the sources on run.
func exceptText(on, off string) api.State {
	return api.State{Exclude: true, On: listed(on), Off: listed(off)}
}

// bent is the address of the letter c with a byte that is not 0 behind its four.
func bent(c byte, place int) api.Addr {
	a := source(c)
	a.B[place] = 1
	return a
}

// shown is s as a text, so that a test can tell it.
func shown(s api.State) string {
	kind := "only "
	if s.Exclude {
		kind = "except "
	}
	return kind + letters(s.On) + " off " + letters(s.Off)
}

// letters is the opposite of listed; what no letter stands for is a question mark.
func letters(l list) string {
	var out strings.Builder
	for _, a := range l {
		c := byte('?')
		for _, known := range []byte("0123456789abcdefghijklmnopqrstuvwxyz") {
			if a == source(known) {
				c = known
			}
		}
		out.WriteByte(c)
	}
	return "[" + out.String() + "]"
}

// told is x as a text.
func told(x api.Step) string {
	out := shown(x.State) + " full " + letters(x.Full) + " rest " + letters(x.Rest) + " ask " + letters(x.Ask)
	if x.Group {
		out += " group"
	}
	if x.All {
		out += " all"
	}
	return out
}

// TestExample is the one of the chapter.
func TestExample(t *testing.T) {
	got := Apply(onlyText("12"), api.IsEx, listed("23"))
	if !got.State.Exclude || !slices.Equal(got.State.On, listed("2")) || !slices.Equal(got.State.Off, listed("3")) || !got.Group {
		t.Errorf("%s", told(got))
	}
	if len(got.Full)+len(got.Rest)+len(got.Ask) > 0 || got.All {
		t.Errorf("and more: %s", told(got))
	}
}

// TestGood is for P15.1.
func TestGood(t *testing.T) {
	ill := list{bent('2', 4)}
	for i, x := range []struct {
		state api.State
		want  bool
	}{
		{api.State{}, true},
		{api.State{On: list{}, Off: list{}}, true},
		{api.State{Exclude: true}, true},
		{api.State{Exclude: true, On: list{}, Off: list{}}, true},
		{onlyText("1"), true},
		{api.State{On: listed("1"), Off: list{}}, true},
		{onlyText("123ab"), true},
		{exceptText("123ab", ""), true},
		{exceptText("", "123ab"), true},
		{exceptText("13b", "02a"), true},
		{exceptText("0", "1"), true},
		{exceptText("1", "0"), true},
		{exceptText("12", "34"), true},
		{exceptText("34", "12"), true},
		{exceptText("1", "b"), true},
		// Off without Exclude.
		{api.State{Off: listed("1")}, false},
		{api.State{On: listed("1"), Off: listed("2")}, false},
		{api.State{On: listed("1"), Off: listed("1")}, false},
		{api.State{On: listed("12"), Off: listed("a")}, false},
		// Out of order.
		{onlyText("21"), false},
		{onlyText("132"), false},
		{onlyText("a1"), false},
		{onlyText("ba"), false},
		{exceptText("21", ""), false},
		{exceptText("21", "3"), false},
		{exceptText("", "21"), false},
		{exceptText("3", "21"), false},
		{exceptText("1", "243"), false},
		{exceptText("1", "a2"), false},
		// An address twice.
		{onlyText("11"), false},
		{onlyText("122"), false},
		{onlyText("aa"), false},
		{exceptText("11", ""), false},
		{exceptText("11", "2"), false},
		{exceptText("", "11"), false},
		{exceptText("2", "11"), false},
		{exceptText("2", "133"), false},
		// An address that is not good.
		{api.State{On: ill}, false},
		{api.State{On: list{source('1'), bent('2', 15)}}, false},
		{api.State{On: append(ill, source('3'))}, false},
		{api.State{Exclude: true, On: ill}, false},
		{api.State{Exclude: true, Off: ill}, false},
		{api.State{Exclude: true, On: listed("1"), Off: ill}, false},
		{api.State{Exclude: true, On: ill, Off: listed("1")}, false},
		{api.State{Exclude: true, On: ill, Off: ill}, false},
		// One address in common, wherever it stands.
		{exceptText("1", "1"), false},
		{exceptText("a", "a"), false},
		{exceptText("12", "23"), false},
		{exceptText("23", "12"), false},
		{exceptText("123", "2"), false},
		{exceptText("2", "123"), false},
		{exceptText("15a", "26a"), false},
		{exceptText("12a", "1b"), false},
		{exceptText("123ab", "123ab"), false},
	} {
		if got := Good(x.state); got != x.want {
			t.Errorf("%d: Good(%s) = %t", i, shown(x.state), got)
		}
	}
}

// TestGoodFamily is for P15.1: addresses of the same bytes of both families are not the same.
func TestGoodFamily(t *testing.T) {
	four := source('1')
	six := four
	six.V6 = true
	s := api.State{Exclude: true, On: list{four}, Off: list{six}}
	if !Good(s) || Lets(s, six) || !Lets(s, four) {
		t.Error("by the bytes alone")
	}
	if s = (api.State{On: list{six}}); !Lets(s, six) || Lets(s, four) {
		t.Error("by the bytes alone")
	}
}

// TestGone is for P15.1.
func TestGone(t *testing.T) {
	for _, x := range []struct {
		state api.State
		want  bool
	}{
		{api.State{}, true},
		{api.State{On: list{}, Off: list{}}, true},
		{onlyText("1"), false},
		{onlyText("a"), false},
		{onlyText("123ab"), false},
		{api.State{Exclude: true}, false},
		{api.State{Exclude: true, On: list{}, Off: list{}}, false},
		{exceptText("1", ""), false},
		{exceptText("", "1"), false},
		{exceptText("1", "2"), false},
	} {
		if got := Gone(x.state); got != x.want {
			t.Errorf("Gone(%s) = %t", shown(x.state), got)
		}
	}
}

// TestLets is for P15.1: lets are the letters whose sources are let through, of 0, 1, 2, 3, a, b and c.
func TestLets(t *testing.T) {
	for _, x := range []struct {
		state api.State
		lets  string
	}{
		{api.State{}, ""},
		{api.State{On: list{}, Off: list{}}, ""},
		{onlyText("1"), "1"},
		{onlyText("13b"), "13b"},
		{onlyText("0123abc"), "0123abc"},
		{api.State{Exclude: true}, "0123abc"},
		{api.State{Exclude: true, On: list{}, Off: list{}}, "0123abc"},
		{exceptText("1", ""), "0123abc"},
		{exceptText("0123abc", ""), "0123abc"},
		{exceptText("", "1"), "023abc"},
		{exceptText("1", "2"), "013abc"},
		{exceptText("13a", "02c"), "13ab"},
		{exceptText("", "0123abc"), ""},
	} {
		for _, c := range []byte("0123abc") {
			if got := Lets(x.state, source(c)); got != strings.Contains(x.lets, string(rune(c))) {
				t.Errorf("Lets(%s, %c) = %t", shown(x.state), c, got)
			}
		}
	}
}

// TestSame is for P15.1: each of these states is the same as itself alone.
func TestSame(t *testing.T) {
	states := func() []api.State {
		return []api.State{
			{}, onlyText("1"), onlyText("2"), onlyText("12"), onlyText("1a"), onlyText("a"),
			{Exclude: true}, exceptText("1", ""), exceptText("2", ""), exceptText("12", ""), exceptText("12", "3"), exceptText("12", "4"), exceptText("12", "34"),
			exceptText("1", "2"), exceptText("2", "1"), exceptText("", "1"), exceptText("", "12"), exceptText("", "a"), exceptText("1", "a"),
			exceptText("13", "24"), exceptText("13", "2"), exceptText("3", "24"),
		}
	}
	others := states()
	for i, a := range states() {
		for j, b := range others {
			if got := Same(a, b); got != (i == j) {
				t.Errorf("Same(%s, %s) = %t", shown(a), shown(b), got)
			}
		}
	}
}

// TestSameFields is for P15.1: states that differ in one of the three fields alone, and lists that are nil and empty.
func TestSameFields(t *testing.T) {
	a := exceptText("12", "34")
	for _, b := range []api.State{
		{On: a.On, Off: a.Off},
		{Exclude: true, On: listed("1"), Off: a.Off},
		{Exclude: true, On: listed("15"), Off: a.Off},
		{Exclude: true, Off: a.Off},
		{Exclude: true, On: a.On, Off: listed("3")},
		{Exclude: true, On: a.On, Off: listed("35")},
		{Exclude: true, On: a.On},
		{Exclude: true, On: a.Off, Off: a.On},
	} {
		if Same(a, b) || Same(b, a) {
			t.Errorf("%s is the same as %s", shown(a), shown(b))
		}
	}
	for _, exclude := range []bool{false, true} {
		for _, on := range []list{nil, {}} {
			for _, off := range []list{nil, {}} {
				x := api.State{Exclude: exclude, On: on, Off: off}
				if !Same(x, api.State{Exclude: exclude}) || !Same(api.State{Exclude: exclude, On: list{}, Off: list{}}, x) || Same(x, api.State{Exclude: !exclude}) {
					t.Errorf("%s with nil and empty lists", shown(x))
				}
			}
		}
	}
	if !Same(api.State{On: listed("1"), Off: list{}}, onlyText("1")) || !Same(exceptText("", "1"), api.State{Exclude: true, On: list{}, Off: listed("1")}) {
		t.Error("an empty list is not nil's like")
	}
}
