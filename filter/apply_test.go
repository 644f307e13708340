package filter

import (
	"math"
	"slices"
	"testing"

	"acequia/api"
)

// answer is all eight fields of a step, its sets as letters.
type answer struct {
	on, off    string
	exclude    bool
	full, rest string
	group      bool
	ask        string
	all        bool
}

// is whether x is the answer, field by field, with its sets in order.
func (a answer) is(x api.Step) bool {
	return slices.Equal(x.State.On, listed(a.on)) && slices.Equal(x.State.Off, listed(a.off)) && x.State.Exclude == a.exclude &&
		slices.Equal(x.Full, listed(a.full)) && slices.Equal(x.Rest, listed(a.rest)) && x.Group == a.group &&
		slices.Equal(x.Ask, listed(a.ask)) && x.All == a.all
}

// row is a record of some kind with the sources of list, at a state with the sets on and off, and what comes of it.
type row struct {
	on, off, list string
	want          answer
}

// wrongs are lists that are regarded as the set l: out of order, with addresses twice, and with ones that are not good.
func wrongs(l list) []list {
	turned := slices.Clone(l)
	slices.Reverse(turned)
	ill := list{bent('0', 4), bent('1', 9), bent('2', 15)}
	return []list{
		turned,
		slices.Concat(l, l),
		slices.Concat(turned, l, turned),
		slices.Concat(ill, l),
		slices.Concat(l, ill),
		slices.Concat(turned, ill, l),
	}
}

// try holds the answers of records of these kinds against the written ones, whatever form their lists have.
func try(t *testing.T, exclude bool, kinds []int, rows []row) {
	t.Helper()
	for i, x := range rows {
		s := api.State{Exclude: exclude, On: listed(x.on), Off: listed(x.off)}
		if !Good(s) {
			t.Fatalf("%d: %s is not good", i, shown(s))
		}
		for _, kind := range kinds {
			if got := Apply(s, kind, listed(x.list)); !x.want.is(got) {
				t.Errorf("%d: Apply(%s, %d, %s) = %s", i, shown(s), kind, x.list, told(got))
			}
			for j, wrong := range wrongs(listed(x.list)) {
				if got := Apply(s, kind, wrong); !x.want.is(got) {
					t.Errorf("%d: Apply(%s, %d, %s) = %s, in form %d of the list", i, shown(s), kind, letters(wrong), told(got), j)
				}
			}
		}
	}
}

// TestIncludeAdding is for P15.2.
func TestIncludeAdding(t *testing.T) {
	try(t, false, []int{api.IsIn, api.Allow}, []row{
		{on: "12", list: "23", want: answer{on: "123", full: "23"}},
		{},
		{on: "12", want: answer{on: "12"}},
		{list: "12", want: answer{on: "12", full: "12"}},
		{on: "12", list: "12", want: answer{on: "12", full: "12"}},
		{on: "12", list: "34", want: answer{on: "1234", full: "34"}},
		{on: "34", list: "12", want: answer{on: "1234", full: "12"}},
		{on: "123", list: "2", want: answer{on: "123", full: "2"}},
		{on: "2", list: "123", want: answer{on: "123", full: "123"}},
		{on: "13a", list: "2ab", want: answer{on: "123ab", full: "2ab"}},
	})
}

// TestIncludeToIn is for P15.2.
func TestIncludeToIn(t *testing.T) {
	try(t, false, []int{api.ToIn}, []row{
		{on: "12", list: "23", want: answer{on: "123", full: "23", ask: "1"}},
		{},
		{on: "12", want: answer{on: "12", ask: "12"}},
		{list: "12", want: answer{on: "12", full: "12"}},
		{on: "12", list: "12", want: answer{on: "12", full: "12"}},
		{on: "12", list: "34", want: answer{on: "1234", full: "34", ask: "12"}},
		{on: "34", list: "12", want: answer{on: "1234", full: "12", ask: "34"}},
		{on: "123", list: "2", want: answer{on: "123", full: "2", ask: "13"}},
		{on: "2", list: "123", want: answer{on: "123", full: "123"}},
		{on: "13a", list: "2ab", want: answer{on: "123ab", full: "2ab", ask: "13"}},
	})
}

// TestIncludeBlock is for P15.2.
func TestIncludeBlock(t *testing.T) {
	try(t, false, []int{api.Block}, []row{
		{on: "12", list: "23", want: answer{on: "12", ask: "2"}},
		{},
		{on: "12", want: answer{on: "12"}},
		{list: "12"},
		{on: "12", list: "12", want: answer{on: "12", ask: "12"}},
		{on: "12", list: "34", want: answer{on: "12"}},
		{on: "34", list: "12", want: answer{on: "34"}},
		{on: "123", list: "2", want: answer{on: "123", ask: "2"}},
		{on: "2", list: "123", want: answer{on: "2", ask: "2"}},
		{on: "13a", list: "2ab", want: answer{on: "13a", ask: "a"}},
	})
}

// TestIncludeIsEx is for P15.2.
func TestIncludeIsEx(t *testing.T) {
	try(t, false, []int{api.IsEx}, []row{
		{on: "12", list: "23", want: answer{on: "2", off: "3", exclude: true, group: true}},
		{want: answer{exclude: true, group: true}},
		{on: "12", want: answer{exclude: true, group: true}},
		{list: "12", want: answer{off: "12", exclude: true, group: true}},
		{on: "12", list: "12", want: answer{on: "12", exclude: true, group: true}},
		{on: "12", list: "34", want: answer{off: "34", exclude: true, group: true}},
		{on: "34", list: "12", want: answer{off: "12", exclude: true, group: true}},
		{on: "123", list: "2", want: answer{on: "2", exclude: true, group: true}},
		{on: "2", list: "123", want: answer{on: "2", off: "13", exclude: true, group: true}},
		{on: "13a", list: "2ab", want: answer{on: "a", off: "2b", exclude: true, group: true}},
	})
}

// TestIncludeToEx is for P15.2.
func TestIncludeToEx(t *testing.T) {
	try(t, false, []int{api.ToEx}, []row{
		{on: "12", list: "23", want: answer{on: "2", off: "3", exclude: true, group: true, ask: "2"}},
		{want: answer{exclude: true, group: true}},
		{on: "12", want: answer{exclude: true, group: true}},
		{list: "12", want: answer{off: "12", exclude: true, group: true}},
		{on: "12", list: "12", want: answer{on: "12", exclude: true, group: true, ask: "12"}},
		{on: "12", list: "34", want: answer{off: "34", exclude: true, group: true}},
		{on: "34", list: "12", want: answer{off: "12", exclude: true, group: true}},
		{on: "123", list: "2", want: answer{on: "2", exclude: true, group: true, ask: "2"}},
		{on: "2", list: "123", want: answer{on: "2", off: "13", exclude: true, group: true, ask: "2"}},
		{on: "13a", list: "2ab", want: answer{on: "a", off: "2b", exclude: true, group: true, ask: "a"}},
	})
}

// TestExcludeAdding is for P15.2.
func TestExcludeAdding(t *testing.T) {
	try(t, true, []int{api.IsIn, api.Allow}, []row{
		{on: "12", off: "34", list: "245", want: answer{on: "1245", off: "3", exclude: true, full: "245"}},
		{want: answer{exclude: true}},
		{on: "12", off: "34", want: answer{on: "12", off: "34", exclude: true}},
		{list: "12", want: answer{on: "12", exclude: true, full: "12"}},
		{on: "12", list: "23", want: answer{on: "123", exclude: true, full: "23"}},
		{off: "12", list: "23", want: answer{on: "23", off: "1", exclude: true, full: "23"}},
		{on: "12", off: "34", list: "1234", want: answer{on: "1234", exclude: true, full: "1234"}},
		{on: "12", off: "34", list: "56", want: answer{on: "1256", off: "34", exclude: true, full: "56"}},
		{on: "12", off: "34", list: "12", want: answer{on: "12", off: "34", exclude: true, full: "12"}},
		{on: "12", off: "34", list: "34", want: answer{on: "1234", exclude: true, full: "34"}},
		{on: "1a", off: "2b", list: "abc", want: answer{on: "1abc", off: "2", exclude: true, full: "abc"}},
	})
}

// TestExcludeToIn is for P15.2.
func TestExcludeToIn(t *testing.T) {
	try(t, true, []int{api.ToIn}, []row{
		{on: "12", off: "34", list: "245", want: answer{on: "1245", off: "3", exclude: true, full: "245", ask: "1", all: true}},
		{want: answer{exclude: true, all: true}},
		{on: "12", off: "34", want: answer{on: "12", off: "34", exclude: true, ask: "12", all: true}},
		{list: "12", want: answer{on: "12", exclude: true, full: "12", all: true}},
		{on: "12", list: "23", want: answer{on: "123", exclude: true, full: "23", ask: "1", all: true}},
		{off: "12", list: "23", want: answer{on: "23", off: "1", exclude: true, full: "23", all: true}},
		{on: "12", off: "34", list: "1234", want: answer{on: "1234", exclude: true, full: "1234", all: true}},
		{on: "12", off: "34", list: "56", want: answer{on: "1256", off: "34", exclude: true, full: "56", ask: "12", all: true}},
		{on: "12", off: "34", list: "12", want: answer{on: "12", off: "34", exclude: true, full: "12", all: true}},
		{on: "12", off: "34", list: "34", want: answer{on: "1234", exclude: true, full: "34", ask: "12", all: true}},
		{on: "1a", off: "2b", list: "abc", want: answer{on: "1abc", off: "2", exclude: true, full: "abc", ask: "1", all: true}},
	})
}

// TestExcludeIsEx is for P15.2.
func TestExcludeIsEx(t *testing.T) {
	try(t, true, []int{api.IsEx}, []row{
		{on: "12", off: "34", list: "245", want: answer{on: "25", off: "4", exclude: true, full: "5", group: true}},
		{want: answer{exclude: true, group: true}},
		{on: "12", off: "34", want: answer{exclude: true, group: true}},
		{list: "12", want: answer{on: "12", exclude: true, full: "12", group: true}},
		{on: "12", list: "23", want: answer{on: "23", exclude: true, full: "3", group: true}},
		{off: "12", list: "23", want: answer{on: "3", off: "2", exclude: true, full: "3", group: true}},
		{on: "12", off: "34", list: "1234", want: answer{on: "12", off: "34", exclude: true, group: true}},
		{on: "12", off: "34", list: "56", want: answer{on: "56", exclude: true, full: "56", group: true}},
		{on: "12", off: "34", list: "12", want: answer{on: "12", exclude: true, group: true}},
		{on: "12", off: "34", list: "34", want: answer{off: "34", exclude: true, group: true}},
		{on: "1a", off: "2b", list: "abc", want: answer{on: "ac", off: "b", exclude: true, full: "c", group: true}},
	})
}

// TestExcludeToEx is for P15.2.
func TestExcludeToEx(t *testing.T) {
	try(t, true, []int{api.ToEx}, []row{
		{on: "12", off: "34", list: "245", want: answer{on: "25", off: "4", exclude: true, rest: "5", group: true, ask: "25"}},
		{want: answer{exclude: true, group: true}},
		{on: "12", off: "34", want: answer{exclude: true, group: true}},
		{list: "12", want: answer{on: "12", exclude: true, rest: "12", group: true, ask: "12"}},
		{on: "12", list: "23", want: answer{on: "23", exclude: true, rest: "3", group: true, ask: "23"}},
		{off: "12", list: "23", want: answer{on: "3", off: "2", exclude: true, rest: "3", group: true, ask: "3"}},
		{on: "12", off: "34", list: "1234", want: answer{on: "12", off: "34", exclude: true, group: true, ask: "12"}},
		{on: "12", off: "34", list: "56", want: answer{on: "56", exclude: true, rest: "56", group: true, ask: "56"}},
		{on: "12", off: "34", list: "12", want: answer{on: "12", exclude: true, group: true, ask: "12"}},
		{on: "12", off: "34", list: "34", want: answer{off: "34", exclude: true, group: true}},
		{on: "1a", off: "2b", list: "abc", want: answer{on: "ac", off: "b", exclude: true, rest: "c", group: true, ask: "ac"}},
	})
}

// TestExcludeBlock is for P15.2.
func TestExcludeBlock(t *testing.T) {
	try(t, true, []int{api.Block}, []row{
		{on: "12", off: "34", list: "245", want: answer{on: "125", off: "34", exclude: true, rest: "5", ask: "25"}},
		{want: answer{exclude: true}},
		{on: "12", off: "34", want: answer{on: "12", off: "34", exclude: true}},
		{list: "12", want: answer{on: "12", exclude: true, rest: "12", ask: "12"}},
		{on: "12", list: "23", want: answer{on: "123", exclude: true, rest: "3", ask: "23"}},
		{off: "12", list: "23", want: answer{on: "3", off: "12", exclude: true, rest: "3", ask: "3"}},
		{on: "12", off: "34", list: "1234", want: answer{on: "12", off: "34", exclude: true, ask: "12"}},
		{on: "12", off: "34", list: "56", want: answer{on: "1256", off: "34", exclude: true, rest: "56", ask: "56"}},
		{on: "12", off: "34", list: "12", want: answer{on: "12", off: "34", exclude: true, ask: "12"}},
		{on: "12", off: "34", list: "34", want: answer{on: "12", off: "34", exclude: true}},
		{on: "1a", off: "2b", list: "abc", want: answer{on: "1ac", off: "2b", exclude: true, rest: "c", ask: "ac"}},
	})
}

// TestApplyNothing is for P15.2: lists that are nil, empty, and of no good address come to the same.
func TestApplyNothing(t *testing.T) {
	for _, s := range []api.State{{}, onlyText("12"), {Exclude: true}, exceptText("12", ""), exceptText("", "34"), exceptText("12", "34")} {
		for kind := -1; kind < 9; kind++ {
			want := told(Apply(s, kind, nil))
			for i, l := range []list{{}, make(list, 0, 4), {bent('1', 4)}, {bent('1', 4), bent('3', 8), bent('1', 4)}} {
				if got := told(Apply(s, kind, l)); got != want {
					t.Errorf("Apply(%s, %d) with empty list %d = %s, not %s", shown(s), kind, i, got, want)
				}
			}
		}
	}
}

// TestApplyNoKind is for P15.2: records of kinds that there are not.
func TestApplyNoKind(t *testing.T) {
	kinds := []int{0, -1, -2, -6, 7, 8, 9, 255, 256 + api.ToEx, 1<<32 + api.IsIn, math.MinInt32, math.MaxInt32, math.MinInt, math.MinInt + api.ToEx, math.MaxInt - 1, math.MaxInt}
	for _, x := range []row{
		{},
		{on: "12"},
		{on: "12", off: "34"},
		{off: "34"},
	} {
		for _, exclude := range []bool{false, true} {
			if !exclude && x.off != "" {
				continue
			}
			s := api.State{Exclude: exclude, On: listed(x.on), Off: listed(x.off)}
			want := answer{on: x.on, off: x.off, exclude: exclude}
			for _, kind := range kinds {
				for _, l := range append(wrongs(listed("245")), nil, listed("12"), listed("34")) {
					if got := Apply(s, kind, l); !want.is(got) {
						t.Errorf("Apply(%s, %d, %s) = %s", shown(s), kind, letters(l), told(got))
					}
				}
			}
		}
	}
}

// TestExpire is for P15.3.
func TestExpire(t *testing.T) {
	for _, x := range []struct {
		state api.State
		list  string
		want  api.State
	}{
		{api.State{}, "", api.State{}},
		{api.State{}, "12", api.State{}},
		{onlyText("12"), "", onlyText("12")},
		{onlyText("12"), "2", onlyText("1")},
		{onlyText("12"), "1", onlyText("2")},
		{onlyText("12"), "23", onlyText("1")},
		{onlyText("12"), "12", api.State{}},
		{onlyText("12"), "0123ab", api.State{}},
		{onlyText("12"), "3", onlyText("12")},
		{onlyText("13ac"), "2ab3", onlyText("1c")},
		{api.State{Exclude: true}, "", api.State{Exclude: true}},
		{api.State{Exclude: true}, "12", api.State{Exclude: true}},
		{exceptText("12", "34"), "", exceptText("12", "34")},
		{exceptText("12", "34"), "1", exceptText("2", "134")},
		{exceptText("12", "34"), "2", exceptText("1", "234")},
		{exceptText("12", "34"), "12", exceptText("", "1234")},
		{exceptText("12", "34"), "0123456", exceptText("", "1234")},
		// Those of Off, and of neither, stay where they are.
		{exceptText("12", "34"), "3", exceptText("12", "34")},
		{exceptText("12", "34"), "34", exceptText("12", "34")},
		{exceptText("12", "34"), "56", exceptText("12", "34")},
		{exceptText("12", "34"), "245", exceptText("1", "234")},
		{exceptText("12", ""), "2", exceptText("1", "2")},
		{exceptText("12", ""), "12", exceptText("", "12")},
		{exceptText("", "12"), "2", exceptText("", "12")},
		{exceptText("24", "13"), "123", exceptText("4", "123")},
		{exceptText("1b", "2ac"), "abc1", exceptText("", "12abc")},
	} {
		if !Good(x.state) || !Good(x.want) {
			t.Fatalf("%s or %s is not good", shown(x.state), shown(x.want))
		}
		for _, l := range append(wrongs(listed(x.list)), listed(x.list)) {
			if got := Expire(x.state, l); !equal(got, x.want) {
				t.Errorf("Expire(%s, %s) = %s", shown(x.state), letters(l), shown(got))
			}
		}
	}
}

// equal is whether both states are, by package slices alone.
func equal(a, b api.State) bool {
	return a.Exclude == b.Exclude && slices.Equal(a.On, b.On) && slices.Equal(a.Off, b.Off)
}

// TestTurn is for P15.3.
func TestTurn(t *testing.T) {
	for _, x := range []struct{ state, want api.State }{
		{api.State{}, api.State{}},
		{api.State{On: list{}, Off: list{}}, api.State{}},
		{onlyText("1"), onlyText("1")},
		{onlyText("12a"), onlyText("12a")},
		{api.State{Exclude: true}, api.State{}},
		{api.State{Exclude: true, On: list{}, Off: list{}}, api.State{}},
		{exceptText("12a", ""), onlyText("12a")},
		{exceptText("", "34b"), api.State{}},
		{exceptText("12a", "34b"), onlyText("12a")},
	} {
		if got := Turn(x.state); !equal(got, x.want) {
			t.Errorf("Turn(%s) = %s", shown(x.state), shown(got))
		}
	}
}
