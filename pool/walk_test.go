package pool_test

import (
	"reflect"
	"strconv"
	"strings"
	"unsafe"

	"collator/api"
)

// walk goes through all texts and lists of a value; a list is told ahead of what is in it, so that it may be put in another one's place.
func walk(v reflect.Value, text, list func(v reflect.Value)) {
	switch v.Kind() {
	case reflect.String:
		text(v)
	case reflect.Slice:
		list(v)
		for i := range v.Len() {
			walk(v.Index(i), text, list)
		}
	case reflect.Struct:
		for i := range v.NumField() {
			walk(v.Field(i), text, list)
		}
	}
}

// leave does nothing to a text or a list.
func leave(reflect.Value) {}

// copied is a value that shares no list with the one that is handed in.
func copied[T any](x T) T {
	walk(reflect.ValueOf(&x).Elem(), leave, func(v reflect.Value) { another(v, 0) })
	return x
}

// another puts a copy in a list's place, with so many spoilt elements in the room behind its length.
func another(v reflect.Value, behind int) {
	n := v.Len()
	list := reflect.MakeSlice(v.Type(), n+behind, n+behind)
	reflect.Copy(list, v)
	for i := range behind {
		spoilValue(list.Index(n + i))
	}
	v.Set(list.Slice(0, n))
}

// roomy is a copy with something written in the room behind the length of each list.
func roomy[T any](x T, behind int) T {
	walk(reflect.ValueOf(&x).Elem(), leave, func(v reflect.Value) { another(v, behind) })
	return x
}

// whole is a copy of which each list goes to the end of its memory.
func whole[T any](x T) T {
	walk(reflect.ValueOf(&x).Elem(), leave, func(v reflect.Value) {
		v.Set(v.Slice(0, v.Cap()))
		another(v, 0)
	})
	return x
}

// spoilValue writes something bad into a value.
func spoilValue(v reflect.Value) {
	switch v.Kind() {
	case reflect.Int:
		v.SetInt(-99)
	case reflect.Uint64:
		v.SetUint(99)
	case reflect.Bool:
		v.SetBool(!v.Bool())
	case reflect.String:
		v.SetString("spoilt")
	case reflect.Slice:
		v.Set(reflect.MakeSlice(v.Type(), 1, 1))
		spoilValue(v.Index(0))
	case reflect.Struct:
		for i := range v.NumField() {
			spoilValue(v.Field(i))
		}
	}
}

// listsOf is all lists of a value, those within others behind these.
func listsOf(x any) []reflect.Value {
	var all []reflect.Value
	walk(reflect.ValueOf(x), leave, func(v reflect.Value) { all = append(all, v) })
	return all
}

// spoil grows each list of a value, and writes into each one, spare room too.
func spoil(x any) {
	all := listsOf(x)
	for _, v := range all {
		bad := reflect.New(v.Type().Elem()).Elem()
		spoilValue(bad)
		reflect.Append(v, bad, bad)
	}
	// From the innermost ones on: who writes into an outer one takes the way to these.
	for i := range all {
		v := all[len(all)-1-i]
		for v, j := v.Slice(0, v.Cap()), 0; j < v.Len(); j++ {
			spoilValue(v.Index(j))
		}
	}
}

// lent is a copy whose texts and lists its owner can write into, and what does so.
func lent[T any](x T) (T, func()) {
	var memory [][]byte
	walk(reflect.ValueOf(&x).Elem(), func(v reflect.Value) {
		text := []byte(v.String())
		memory = append(memory, text)
		v.SetString(unsafe.String(unsafe.SliceData(text), len(text)))
	}, func(v reflect.Value) { another(v, 0) })
	return x, func() {
		for _, text := range memory {
			for i := range text {
				text[i] = '#'
			}
		}
		spoil(x)
	}
}

// block is memory that a text or a list has, spare room too.
type block struct {
	from, to uintptr
	what     string
}

// blocks is all memory of some values.
func blocks(values ...any) []block {
	var all []block
	for _, x := range values {
		walk(reflect.ValueOf(x), func(v reflect.Value) {
			from := uintptr(unsafe.Pointer(unsafe.StringData(v.String())))
			all = append(all, block{from, from + uintptr(v.Len()), strconv.Quote(v.String())})
		}, func(v reflect.Value) {
			from := v.Pointer()
			all = append(all, block{from, from + uintptr(v.Cap())*v.Type().Elem().Size(), v.Type().String()})
		})
	}
	return all
}

// meeting is two blocks of an answer, or one of it and one that was handed in, that have a byte in common; none, if there are none.
func meeting(answer, given []block) []block {
	for i, a := range answer {
		for _, others := range [][]block{given, answer[:i]} {
			for _, b := range others {
				if a.from < b.to && b.from < a.to {
					return []block{a, b}
				}
			}
		}
	}
	return nil
}

// written is some values as a text; two are the same text just if they are the same, where a list that is nil is one without elements.
func written(values ...any) string {
	var t strings.Builder
	for _, x := range values {
		write(&t, reflect.ValueOf(x))
	}
	return t.String()
}

func write(t *strings.Builder, v reflect.Value) {
	switch v.Kind() {
	case reflect.Int:
		t.WriteString(strconv.FormatInt(v.Int(), 10) + ";")
	case reflect.Uint64:
		t.WriteString(strconv.FormatUint(v.Uint(), 10) + ";")
	case reflect.Bool:
		t.WriteString(strconv.FormatBool(v.Bool()) + ";")
	case reflect.String:
		t.WriteString(strconv.Quote(v.String()) + ";")
	case reflect.Slice:
		t.WriteString(strconv.Itoa(v.Len()) + "[")
		for i := range v.Len() {
			write(t, v.Index(i))
		}
		t.WriteString("]")
	case reflect.Struct:
		t.WriteString("{")
		for i := range v.NumField() {
			write(t, v.Field(i))
		}
		t.WriteString("}")
	default:
		panic("a value of a kind that api does not have: " + v.Kind().String())
	}
}

func same[T any](a, b T) bool { return written(a) == written(b) }

// nothing tells whether a pool is all zero.
func nothing(p api.Pool) bool { return same(p, api.Pool{}) }
