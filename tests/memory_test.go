package tests

import (
	"reflect"
	"testing"
)

// mark stands, as each number, in the spare room behind a list; each flag is
// set there.
const mark = 77

const spare = 3

// alike tells whether two values are one, where an empty list and nil are the
// same.
func alike[T any](a T, b T) bool {
	return alikeParts(reflect.ValueOf(&a).Elem(), reflect.ValueOf(&b).Elem())
}

func alikeParts(a reflect.Value, b reflect.Value) bool {
	n, part := parts(a)
	m, other := parts(b)
	if n != m {
		return false
	}
	if part == nil {
		return a.Equal(b)
	}
	for k := range n {
		if !alikeParts(part(k), other(k)) {
			return false
		}
	}
	return true
}

// parts are how many things a list or a struct has, and each of them; no way
// to them where it is neither.
func parts(v reflect.Value) (int, func(int) reflect.Value) {
	switch v.Kind() {
	case reflect.Slice, reflect.Array:
		return v.Len(), v.Index
	case reflect.Struct:
		return v.NumField(), v.Field
	}
	return 0, nil
}

// withRoom is a value in new memory, each list of it with marks behind it
// that nobody may write over.
func withRoom[T any](given T) T {
	var made T
	copyParts(reflect.ValueOf(&made).Elem(), reflect.ValueOf(&given).Elem(), spare)
	return made
}

// fresh is a value in new memory.
func fresh[T any](given T) T {
	var made T
	copyParts(reflect.ValueOf(&made).Elem(), reflect.ValueOf(&given).Elem(), 0)
	return made
}

func copyParts(to reflect.Value, from reflect.Value, room int) {
	if from.Kind() == reflect.Slice {
		to.Set(reflect.MakeSlice(from.Type(), from.Len()+room, from.Len()+room))
		for k := range room {
			putMarks(to.Index(from.Len() + k))
		}
		to.SetLen(from.Len())
	}
	n, part := parts(from)
	if part == nil {
		to.Set(from)
		return
	}
	_, place := parts(to)
	for k := range n {
		copyParts(place(k), part(k), room)
	}
}

func putMarks(v reflect.Value) {
	if v.Kind() == reflect.Int {
		v.SetInt(mark)
		return
	}
	if v.Kind() == reflect.Bool {
		v.SetBool(true)
		return
	}
	if v.Kind() == reflect.Slice {
		return
	}
	n, part := parts(v)
	for k := range n {
		putMarks(part(k))
	}
}

// marked tells whether all is as withRoom left it behind each list.
func marked[T any](v T) bool { return markedParts(reflect.ValueOf(&v).Elem()) }

func markedParts(v reflect.Value) bool {
	if v.Kind() == reflect.Slice {
		want := reflect.New(v.Type().Elem()).Elem()
		putMarks(want)
		for k := range spare {
			if v.Cap() != v.Len()+spare || !alikeParts(v.Slice(0, v.Cap()).Index(v.Len()+k), want) {
				return false
			}
		}
	}
	n, part := parts(v)
	for k := range n {
		if !markedParts(part(k)) {
			return false
		}
	}
	return true
}

type span struct{ from, to uintptr }

// spansOf are the memories of all lists of a value, with their spare rooms.
func spansOf(v reflect.Value) []span {
	var l []span
	if v.Kind() == reflect.Slice && v.Cap() > 0 {
		l = append(l, span{v.Pointer(), v.Pointer() + uintptr(v.Cap())*v.Type().Elem().Size()})
	}
	n, part := parts(v)
	for k := range n {
		l = append(l, spansOf(part(k))...)
	}
	return l
}

// sharesNone tells whether no list of an answer shares memory with another
// one of it, or with one of an argument.
func sharesNone(answer any, arguments ...any) bool {
	own := spansOf(reflect.ValueOf(answer))
	all := own
	for _, v := range arguments {
		all = append(all, spansOf(reflect.ValueOf(v))...)
	}
	for k, a := range own {
		for _, b := range all[k+1:] {
			if a.from < b.to && b.from < a.to {
				return false
			}
		}
	}
	return true
}

// numbersOf are the ways to all numbers that a value has, flagsOf to all flags.
func numbersOf(v reflect.Value) []reflect.Value { return leavesOf(v, reflect.Int) }

func flagsOf(v reflect.Value) []reflect.Value { return leavesOf(v, reflect.Bool) }

func leavesOf(v reflect.Value, kind reflect.Kind) []reflect.Value {
	if v.Kind() == kind {
		return []reflect.Value{v}
	}
	var l []reflect.Value
	n, part := parts(v)
	for k := range n {
		l = append(l, leavesOf(part(k), kind)...)
	}
	return l
}

// listsOf are the ways to all lists that a value has.
func listsOf(v reflect.Value) []reflect.Value {
	var l []reflect.Value
	if v.Kind() == reflect.Slice {
		l = append(l, v)
	}
	n, part := parts(v)
	for k := range n {
		l = append(l, listsOf(part(k))...)
	}
	return l
}

func TestMemoryIsHeldApart(t *testing.T) {
	type pair struct {
		N int
		L [][]int
		F []bool
	}
	p := pair{1, [][]int{{2, 3}, {}}, []bool{false}}
	q := withRoom(p)
	if !alike(p, q) || !marked(q) || !sharesNone(q, p) || !alike(pair{L: nil}, pair{L: [][]int{}}) {
		t.Error("a copy is not one:", p, q)
	}
	q.L[0] = append(q.L[0], 5)
	if marked(q) || alike(p, q) {
		t.Error("a word behind a list is not seen:", q)
	}
	if q := withRoom(p); marked(pair{L: q.L, F: append(q.F, false)}) {
		t.Error("a flag behind a list is not seen:", q)
	}
	if q := fresh(p); sharesNone(pair{L: [][]int{q.L[0], q.L[0][1:]}}) || sharesNone(q, q.L[0][:1]) {
		t.Error("memory that is shared is not seen:", q)
	}
}
