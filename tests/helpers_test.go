package tests

import (
	"math"
	"reflect"
	"slices"
	"testing"

	"loop.example/g00869/impl"
)

// sets is short for a list of lists of vertices.
type sets = [][]int64

// ints is short for a list of vertices.
type ints = []int64

// wildInts are numbers at and beyond every border, for arguments that are numbers.
var wildInts = ints{math.MinInt64, -257, -2, -1, 0, 1, 2, 3, 4, 5, 6, 16, 17, 255, 256, 257, math.MaxInt64}

// wildLists are lists of vertices that are valid for some arenas and invalid for others.
func wildLists() sets {
	return sets{
		nil, {}, {0}, {2}, {0, 1}, {0, 1, 2, 3, 4}, {0, 255}, {0, 256}, {-1}, {-1, 0}, {1, 0}, {0, 0}, {2, 2},
		{0, 1, 1, 2}, {5}, {4, 5}, {math.MinInt64}, {math.MaxInt64}, {0, math.MaxInt64}, {math.MaxInt64, 0},
		countTo(256), countTo(257), make(ints, 300),
	}
}

// countTo returns 0, ..., n-1.
func countTo(n int64) ints {
	list := ints{}
	for i := range n {
		list = append(list, i)
	}
	return list
}

// dice is a pseudo-random generator, so that every run of the tests makes the same choices.
type dice uint64

// below returns a number from 0 to n-1.
func (d *dice) below(n int64) int64 {
	*d = *d*6364136223846793005 + 1442695040888963407
	return int64(uint64(*d>>33) % uint64(n))
}

// subset returns a set of numbers below n, each of which is in it with the odds of 1 to k.
func (d *dice) subset(n int64, k int64) ints {
	set := ints{}
	for v := range n {
		if d.below(k) == 0 {
			set = append(set, v)
		}
	}
	return set
}

// arena returns a valid arena of n vertices with at most out successors each.
func (d *dice) arena(n int64, out int64) impl.Arena {
	var a impl.Arena
	for range n {
		next := ints{d.below(n)}
		for range d.below(out) {
			next = append(next, d.below(n))
		}
		slices.Sort(next)
		a.Owner = append(a.Owner, d.below(2))
		a.Next = append(a.Next, slices.Compact(next))
	}
	return a
}

// sameList reports whether two lists have the same elements; nil and empty lists are the same.
func sameList(got ints, want ints) bool { return slices.Equal(got, want) }

// sameLists is sameList for lists of lists.
func sameLists(got sets, want sets) bool { return slices.EqualFunc(got, want, sameList) }

// guardedCall calls f with args, reports what faultsOf finds, and returns the results.
func guardedCall(t *testing.T, name string, f any, args ...any) []any {
	t.Helper()
	results, faults := faultsOf(f, args)
	for _, fault := range faults {
		t.Errorf("%s%v: %s", name, args, fault)
	}
	return results
}

// faultsOf calls f twice with copies of args that have spare capacity. The faults are a panic, a
// changed argument (the spare capacity included), results that share memory with an argument, with
// the results of the other call or with each other, and different results. After a panic there are
// no results.
func faultsOf(f any, args []any) (results []any, faults []string) {
	defer func() {
		if recover() != nil {
			faults = append(faults, "a panic")
		}
	}()
	var in, before []reflect.Value
	for _, arg := range args {
		in = append(in, guarded(reflect.ValueOf(arg)))
		before = append(before, guarded(reflect.ValueOf(arg)))
	}
	out := reflect.ValueOf(f).Call(in)
	for i := range in {
		if !sameMemory(in[i], before[i]) {
			faults = append(faults, "a changed argument")
		}
	}
	again := reflect.ValueOf(f).Call(before)
	if sharing(spansOf(slices.Concat(in, again)...), spansOf(out...)) {
		faults = append(faults, "a result that is not new memory")
	}
	for i, o := range out {
		results = append(results, o.Interface())
		if !reflect.DeepEqual(o.Interface(), again[i].Interface()) {
			faults = append(faults, "a result that differs from call to call")
		}
	}
	return results, faults
}

// guarded returns a deep copy of v in which every slice has spare capacity that is not zero, as
// far as its elements are numbers or slices of numbers.
func guarded(v reflect.Value) reflect.Value {
	c := reflect.New(v.Type()).Elem()
	if list, is := v.Interface().(ints); is && list != nil {
		c.Set(reflect.ValueOf(append(slices.Clone(list), -77, -77, -77)[:len(list)]))
		return c
	}
	switch v.Kind() {
	case reflect.Slice:
		if v.IsNil() {
			return c
		}
		spare := 3
		s := reflect.MakeSlice(v.Type(), v.Len()+spare, v.Len()+spare)
		for i := range s.Len() {
			if i < v.Len() {
				s.Index(i).Set(guarded(v.Index(i)))
			} else {
				fill(s.Index(i))
			}
		}
		c.Set(s.Slice(0, v.Len()))
	case reflect.Struct:
		for i := range v.NumField() {
			c.Field(i).Set(guarded(v.Field(i)))
		}
	default:
		c.Set(v)
	}
	return c
}

// fill stores a value that no function would write by chance.
func fill(v reflect.Value) {
	switch v.Kind() {
	case reflect.Int64:
		v.SetInt(-77)
	case reflect.Slice:
		v.Set(reflect.MakeSlice(v.Type(), 1, 1))
		fill(v.Index(0))
	}
}

// sameMemory reports whether two values are equal, the spare capacity of their slices included.
func sameMemory(a reflect.Value, b reflect.Value) bool {
	switch a.Kind() {
	case reflect.Slice:
		if a.IsNil() != b.IsNil() || a.Len() != b.Len() || a.Cap() != b.Cap() {
			return false
		}
		a, b = a.Slice(0, a.Cap()), b.Slice(0, b.Cap())
		if list, is := a.Interface().(ints); is {
			return slices.Equal(list, b.Interface().(ints))
		}
		for i := range a.Len() {
			if !sameMemory(a.Index(i), b.Index(i)) {
				return false
			}
		}
		return true
	case reflect.Struct:
		for i := range a.NumField() {
			if !sameMemory(a.Field(i), b.Field(i)) {
				return false
			}
		}
		return true
	}
	return reflect.DeepEqual(a.Interface(), b.Interface())
}

// A span is the memory of one slice, from its first byte to the one behind its capacity.
type span struct{ from, to uintptr }

// spansOf returns the memory of all slices in the values.
func spansOf(values ...reflect.Value) []span {
	var spans []span
	for _, v := range values {
		switch v.Kind() {
		case reflect.Slice:
			if size := uintptr(v.Cap()) * v.Type().Elem().Size(); size > 0 {
				spans = append(spans, span{v.Pointer(), v.Pointer() + size})
			}
			if v.Type().Elem().Kind() == reflect.Int64 {
				continue
			}
			full := v.Slice(0, v.Cap())
			for i := range full.Len() {
				spans = append(spans, spansOf(full.Index(i))...)
			}
		case reflect.Struct:
			for i := range v.NumField() {
				spans = append(spans, spansOf(v.Field(i))...)
			}
		}
	}
	return spans
}

// sharing reports whether a slice of the results overlaps another one or one of the arguments.
func sharing(args []span, results []span) bool {
	for i, r := range results {
		for _, s := range slices.Concat(args, results[:i]) {
			if r.from < s.to && s.from < r.to {
				return true
			}
		}
	}
	return false
}

// TestFaultsOf checks that the guard finds what it is meant to find, and nothing else.
func TestFaultsOf(t *testing.T) {
	args := []any{ints{1, 2, 3}}
	row := make(ints, 2)
	calls := int64(0)
	for name, f := range map[string]func(ints) sets{
		"a changed element":  func(s ints) sets { s[0] = 9; return nil },
		"a changed capacity": func(s ints) sets { _ = append(s, 9); return nil },
		"a kept argument":    func(s ints) sets { return sets{s} },
		"a kept capacity":    func(s ints) sets { return sets{s[:0]} },
		"a shared row":       func(s ints) sets { r := slices.Clone(row); return sets{r, r[1:]} },
		"a kept result":      func(s ints) sets { return sets{row} },
		"a counted call":     func(s ints) sets { calls++; return sets{{calls}} },
		"a panic":            func(s ints) sets { return sets{s[:1000]} },
	} {
		if _, faults := faultsOf(f, args); len(faults) != 1 {
			t.Errorf("%s: the faults are %v", name, faults)
		}
	}
	clean := func(s ints) sets { return sets{slices.Clone(s), {}, nil} }
	if results, faults := faultsOf(clean, args); len(faults) != 0 || !sameLists(results[0].(sets), sets{{1, 2, 3}, {}, {}}) {
		t.Errorf("a clean call: %v, %v", results, faults)
	}
}
