package tests

import (
	"math"
	"slices"
	"testing"

	"loop.example/g00869/impl"
)

// goodSets are sets of numbers from 0 to 255, the smallest and the greatest ones among them.
func goodSets() sets {
	return sets{nil, {}, {0}, {255}, {0, 255}, {1, 3, 5}, {3, 4}, {3}, {0, 1, 2, 3, 4, 5}, {254, 255}, countTo(255), countTo(256), countTo(256)[1:]}
}

// badSets are lists that are not sets of numbers from 0 to 255.
func badSets() sets {
	return sets{
		{-1}, {-1, 0}, {0, -1}, {256}, {0, 256}, {255, 256}, {2, 1}, {0, 0}, {255, 255}, {0, 1, 1}, {1, 1, 2}, {0, 2, 1}, {1, 3, 5, 4},
		{math.MinInt64}, {math.MinInt64, 0}, {math.MaxInt64}, {0, math.MaxInt64}, {math.MaxInt64, math.MinInt64}, countTo(257), make(ints, 2), make(ints, 1000),
	}
}

// setMembers lists the numbers from 0 to 255 for which the condition holds.
func setMembers(holds func(n int64) bool) ints {
	var list ints
	for n := range int64(256) {
		if holds(n) {
			list = append(list, n)
		}
	}
	return list
}

func TestSetOk(t *testing.T) {
	for _, c := range []struct {
		set  ints
		n    int64
		want bool
	}{
		{ints{1, 3, 5}, 6, true},
		{ints{1, 3, 5}, 5, false},
		{ints{3, 1}, 6, false},
		{ints{1, 1}, 6, false},
		{ints{-1}, 6, false},
		{ints{-1, 2}, 6, false},
		{ints{0, 1, 2}, 3, true},
		{ints{0, 1, 2, 2}, 3, false},
		{ints{0}, 1, true},
		{ints{1}, 1, false},
		{ints{0}, 0, false},
		{ints{0}, -1, false},
		{ints{-2}, -1, false},
		{nil, 0, true},
		{ints{}, 0, true},
		{nil, 256, true},
		{nil, 257, false},
		{nil, -1, false},
		{ints{}, math.MaxInt64, false},
		{nil, math.MinInt64, false},
		{ints{1, 3, 5}, 256, true},
		{ints{1, 3, 5}, 257, false},
		{ints{255}, 256, true},
		{ints{255}, 255, false},
		{ints{256}, 257, false},
		{ints{256}, 256, false},
		{countTo(256), 256, true},
		{countTo(256), 255, false},
		{countTo(257), 257, false},
		{ints{math.MinInt64, 0}, 6, false},
		{ints{0, math.MaxInt64}, 6, false},
	} {
		if got := impl.SetOk(c.set, c.n); got != c.want {
			t.Errorf("SetOk(%v, %d) returns %v", c.set, c.n, got)
		}
	}
	for _, set := range badSets() {
		if impl.SetOk(set, impl.MaxV) {
			t.Errorf("SetOk(%v, 256) returns true", set)
		}
	}
}

func TestAllOf(t *testing.T) {
	for n := range int64(impl.MaxV + 1) {
		got := impl.AllOf(n)
		if !sameList(got, countTo(n)) || !impl.SetOk(got, n) {
			t.Errorf("AllOf(%d) returns %v", n, got)
		}
	}
	for _, n := range (ints{-1, -256, 257, 258, 1 << 40, math.MinInt64, math.MaxInt64}) {
		if got := impl.AllOf(n); len(got) != 0 {
			t.Errorf("AllOf(%d) returns %d numbers", n, len(got))
		}
	}
}

func TestSetExamples(t *testing.T) {
	a, b := ints{1, 3, 5}, ints{3, 4}
	if got := impl.BothOf(a, b); !sameList(got, ints{1, 3, 4, 5}) {
		t.Errorf("BothOf returns %v", got)
	}
	if got := impl.MeetOf(a, b); !sameList(got, ints{3}) {
		t.Errorf("MeetOf returns %v", got)
	}
	if got := impl.LessOf(a, b); !sameList(got, ints{1, 5}) {
		t.Errorf("LessOf returns %v", got)
	}
	if got := impl.LessOf(b, a); !sameList(got, ints{4}) {
		t.Errorf("LessOf the other way returns %v", got)
	}
	if impl.HasIn(a, 4) || !impl.HasIn(a, 1) || !impl.HasIn(a, 3) || !impl.HasIn(a, 5) {
		t.Error("HasIn")
	}
	if !impl.PartIn(ints{3}, a) || impl.PartIn(b, a) || impl.PartIn(a, ints{3}) || !impl.PartIn(a, a) {
		t.Error("PartIn")
	}
	if !impl.PartIn(nil, nil) || !impl.PartIn(ints{}, a) || impl.PartIn(a, nil) || impl.HasIn(nil, 0) {
		t.Error("the empty set")
	}
}

// checkSets compares the results for two valid sets with what the definitions say of each number.
func checkSets(t *testing.T, a ints, b ints) {
	t.Helper()
	inA := func(n int64) bool { return slices.Contains(a, n) }
	inB := func(n int64) bool { return slices.Contains(b, n) }
	both, meet, less := impl.BothOf(a, b), impl.MeetOf(a, b), impl.LessOf(a, b)
	if !sameList(both, setMembers(func(n int64) bool { return inA(n) || inB(n) })) {
		t.Errorf("BothOf(%v, %v) returns %v", a, b, both)
	}
	if !sameList(meet, setMembers(func(n int64) bool { return inA(n) && inB(n) })) {
		t.Errorf("MeetOf(%v, %v) returns %v", a, b, meet)
	}
	if !sameList(less, setMembers(func(n int64) bool { return inA(n) && !inB(n) })) {
		t.Errorf("LessOf(%v, %v) returns %v", a, b, less)
	}
	if impl.PartIn(a, b) != (len(less) == 0) {
		t.Errorf("PartIn(%v, %v) returns %v", a, b, len(less) != 0)
	}
	if !sameList(impl.BothOf(meet, less), a) || len(impl.MeetOf(meet, less)) != 0 {
		t.Errorf("%v is not the union of %v and %v", a, meet, less)
	}
}

func TestUnionOfParts(t *testing.T) {
	for _, a := range goodSets() {
		for _, b := range goodSets() {
			checkSets(t, a, b)
		}
	}
	d := dice(20)
	for range 300 {
		n := 1 + d.below(impl.MaxV)
		a, b := d.subset(n, 1+d.below(4)), d.subset(n, 1+d.below(4))
		checkSets(t, a, b)
		checkSets(t, impl.MeetOf(a, b), b)
	}
}

func TestHasIn(t *testing.T) {
	for _, a := range goodSets() {
		for n := int64(-3); n < 260; n++ {
			if impl.HasIn(a, n) != slices.Contains(a, n) {
				t.Errorf("HasIn(%v, %d) returns %v", a, n, impl.HasIn(a, n))
			}
		}
		if impl.HasIn(a, math.MinInt64) || impl.HasIn(a, math.MaxInt64) {
			t.Errorf("HasIn(%v) of a number far beyond", a)
		}
	}
}

func TestListsThatAreNoSets(t *testing.T) {
	for _, bad := range badSets() {
		for _, n := range append(slices.Clone(wildInts), bad...) {
			if impl.HasIn(bad, n) {
				t.Errorf("HasIn(%v, %d) returns true", bad, n)
			}
		}
		for _, other := range append(goodSets(), bad) {
			for _, pair := range []sets{{bad, other}, {other, bad}} {
				a, b := pair[0], pair[1]
				if len(impl.BothOf(a, b)) != 0 || len(impl.MeetOf(a, b)) != 0 || len(impl.LessOf(a, b)) != 0 || impl.PartIn(a, b) {
					t.Errorf("a result for %v and %v", a, b)
				}
			}
		}
	}
}

// TestSetsKeepMemory calls every function of the chapter with valid and invalid arguments.
func TestSetsKeepMemory(t *testing.T) {
	lists := slices.Concat(goodSets(), badSets(), wildLists())
	for _, n := range wildInts {
		guardedCall(t, "AllOf", impl.AllOf, n)
		for _, a := range lists {
			guardedCall(t, "SetOk", impl.SetOk, a, n)
			guardedCall(t, "HasIn", impl.HasIn, a, n)
		}
	}
	for _, a := range lists {
		for _, b := range lists {
			guardedCall(t, "BothOf", impl.BothOf, a, b)
			guardedCall(t, "MeetOf", impl.MeetOf, a, b)
			guardedCall(t, "LessOf", impl.LessOf, a, b)
			guardedCall(t, "PartIn", impl.PartIn, a, b)
		}
	}
}
