package tests

import (
	"reflect"
	"testing"
)

// A named is a function of the program with its name.
type named struct {
	name string
	fn   any
}

// eachChoice calls use with each choice of one value for each parameter of the function.
// Each of the values is a slice: its elements are chosen for the parameters of their type.
func eachChoice(t *testing.T, f named, values []any, use func(args []reflect.Value)) {
	t.Helper()
	of := reflect.TypeOf(f.fn)
	pools := make([]reflect.Value, of.NumIn())
	for i := range pools {
		for _, v := range values {
			if pool := reflect.ValueOf(v); pool.Type().Elem() == of.In(i) {
				pools[i] = pool
			}
		}
		if !pools[i].IsValid() {
			t.Fatalf("%s: no values for %v", f.name, of.In(i))
		}
	}
	choose := func([]reflect.Value) {}
	choose = func(chosen []reflect.Value) {
		if len(chosen) == len(pools) {
			use(chosen)
			return
		}
		pool := pools[len(chosen)]
		for i := range pool.Len() {
			choose(append(chosen[:len(chosen):len(chosen)], pool.Index(i)))
		}
	}
	choose(nil)
}

// failed reports whether a call failed, and complains if it did and yet returned something.
func failed(t *testing.T, f named, args []reflect.Value, results []reflect.Value) bool {
	t.Helper()
	last := len(results) - 1
	if results[last].Bool() {
		return false
	}
	for _, r := range results[:last] {
		if !isNothing(r) {
			t.Fatalf("%s%v fails, and returns %v", f.name, args, results)
		}
	}
	return true
}

// isNothing reports whether a value is zero; a nil and an empty list are the same.
func isNothing(v reflect.Value) bool { return alike(v, reflect.Zero(v.Type())) }

// alike compares values; a nil and an empty list are the same.
func alike(a reflect.Value, b reflect.Value) bool {
	switch a.Kind() {
	case reflect.Slice:
		if a.Len() != b.Len() {
			return false
		}
		for i := range a.Len() {
			if !alike(a.Index(i), b.Index(i)) {
				return false
			}
		}
		return true
	case reflect.Struct:
		for i := range a.NumField() {
			if !alike(a.Field(i), b.Field(i)) {
				return false
			}
		}
		return true
	}
	return a.Equal(b)
}

// wantAllFail calls the functions with all choices of the values, and wants each call to fail and to return nothing.
func wantAllFail(t *testing.T, fns []named, values ...any) {
	t.Helper()
	for _, f := range fns {
		eachChoice(t, f, values, func(args []reflect.Value) {
			if !failed(t, f, args, reflect.ValueOf(f.fn).Call(args)) {
				t.Fatalf("%s%v succeeds", f.name, args)
			}
		})
	}
}

// holdTotal calls the functions with all choices of the values. It holds that calls that fail return nothing,
// that no argument is changed, that results are new memory, and that nothing is kept from call to call.
// Each function has to succeed at least once.
func holdTotal(t *testing.T, fns []named, values ...any) {
	t.Helper()
	for _, f := range fns {
		worked := false
		eachChoice(t, f, values, func(args []reflect.Value) {
			if holdApart(t, f, args) {
				worked = true
			}
		})
		if !worked {
			t.Errorf("%s was never held with a call that succeeds", f.name)
		}
	}
}

// holdApart does so for one choice, and reports whether the call succeeded.
func holdApart(t *testing.T, f named, plain []reflect.Value) bool {
	t.Helper()
	var args, before []reflect.Value
	for _, v := range plain {
		args = append(args, withRoom(v))
	}
	for _, v := range args {
		before = append(before, whole(v))
	}
	fn := reflect.ValueOf(f.fn)
	results := fn.Call(args)
	fail := failed(t, f, args, results)
	holdMemory(t, f, args, results)
	for _, r := range results {
		scribble(r)
	}
	for i, v := range args {
		if !reflect.DeepEqual(whole(v).Interface(), before[i].Interface()) {
			t.Fatalf("%s changes its argument %v to %v", f.name, before[i], whole(v))
		}
	}
	// What is behind the arguments, and what was done to the results above, shows in no later call.
	again, want := fn.Call(args), fn.Call(plain)
	for i := range want {
		if !alike(again[i], want[i]) {
			t.Fatalf("%s%v: got %v, want %v", f.name, plain, again, want)
		}
	}
	return !fail
}

// holdMemory holds that no slice of the results shares memory with another one, or with one of the arguments.
func holdMemory(t *testing.T, f named, args []reflect.Value, results []reflect.Value) {
	t.Helper()
	var own, others []span
	for _, r := range results {
		own = append(own, spans(r)...)
	}
	for _, v := range args {
		others = append(others, spans(v)...)
	}
	for i, a := range own {
		for _, b := range append(own[i+1:len(own):len(own)], others...) {
			if a.from < b.to && b.from < a.to {
				t.Fatalf("%s%v: a result shares memory: %v", f.name, args, results)
			}
		}
	}
}

// A span is the memory of a slice, with what is behind it.
type span struct{ from, to uintptr }

func spans(v reflect.Value) []span {
	var all []span
	switch v.Kind() {
	case reflect.Slice:
		from := v.Pointer()
		all = append(all, span{from, from + uintptr(v.Cap())*v.Type().Elem().Size()})
		if isPlain(v.Type().Elem()) {
			break
		}
		for i := range v.Len() {
			all = append(all, spans(v.Index(i))...)
		}
	case reflect.Struct:
		for i := range v.NumField() {
			all = append(all, spans(v.Field(i))...)
		}
	}
	return all
}

// isPlain reports whether values of a type hold no slices.
func isPlain(of reflect.Type) bool { return of.Kind() != reflect.Slice && of.Kind() != reflect.Struct }

// withRoom returns a copy of a value with room behind each slice, full of what nobody may read or write.
func withRoom(v reflect.Value) reflect.Value {
	if v.Kind() != reflect.Slice {
		return copied(v, withRoom)
	}
	const room = 3
	grown := reflect.MakeSlice(v.Type(), v.Len()+room, v.Len()+room)
	reflect.Copy(grown, copied(v, withRoom))
	for i := range room {
		mark(grown.Index(v.Len() + i))
	}
	return grown.Slice(0, v.Len())
}

// whole returns a copy of a value with what is behind each slice.
func whole(v reflect.Value) reflect.Value {
	if v.Kind() == reflect.Slice {
		v = v.Slice(0, v.Cap())
	}
	return copied(v, whole)
}

// copied returns a copy of a value whose inner values are copied by a function.
func copied(v reflect.Value, inner func(reflect.Value) reflect.Value) reflect.Value {
	switch v.Kind() {
	case reflect.Slice:
		list := reflect.MakeSlice(v.Type(), v.Len(), v.Len())
		if isPlain(v.Type().Elem()) {
			reflect.Copy(list, v)
			return list
		}
		for i := range v.Len() {
			list.Index(i).Set(inner(v.Index(i)))
		}
		return list
	case reflect.Struct:
		fields := reflect.New(v.Type()).Elem()
		for i := range v.NumField() {
			fields.Field(i).Set(inner(v.Field(i)))
		}
		return fields
	}
	return v
}

// mark sets a value, and all that is in it, to what stands nowhere else.
func mark(v reflect.Value) {
	switch v.Kind() {
	case reflect.Int:
		v.SetInt(-12345678)
	case reflect.String:
		v.SetString("behind")
	case reflect.Bool:
		v.SetBool(true)
	case reflect.Slice:
		v.Set(reflect.MakeSlice(v.Type(), 1, 1))
		mark(v.Index(0))
	case reflect.Struct:
		for i := range v.NumField() {
			mark(v.Field(i))
		}
	}
}

// scribble overwrites all slices of a result, with what is behind them.
func scribble(v reflect.Value) {
	switch v.Kind() {
	case reflect.Slice:
		for i := range v.Len() {
			scribble(v.Index(i))
		}
		v = v.Slice(0, v.Cap())
		for i := range v.Len() {
			mark(v.Index(i))
		}
	case reflect.Struct:
		for i := range v.NumField() {
			scribble(v.Field(i))
		}
	}
}
