package clone

import (
	"reflect"
	"testing"
)

// fill sets everything that a value has: numbers to 1, texts to x, lists to one element, down to a depth.
func fill(v reflect.Value, depth int) {
	switch v.Kind() {
	case reflect.Struct:
		for i := range v.NumField() {
			fill(v.Field(i), depth)
		}
	case reflect.Slice:
		if depth > 0 {
			v.Set(reflect.MakeSlice(v.Type(), 1, 1))
			fill(v.Index(0), depth-1)
		}
	case reflect.String:
		v.SetString("x")
	case reflect.Bool:
		v.SetBool(true)
	case reflect.Uint8:
		v.SetUint(1)
	default:
		v.SetInt(1)
	}
}

// shares reports whether two values have a list in common.
func shares(a, b reflect.Value) bool {
	switch a.Kind() {
	case reflect.Struct:
		for i := range a.NumField() {
			if shares(a.Field(i), b.Field(i)) {
				return true
			}
		}
	case reflect.Slice:
		if a.Len() > 0 && a.Pointer() == b.Pointer() {
			return true
		}
		for i := range a.Len() {
			if shares(a.Index(i), b.Index(i)) {
				return true
			}
		}
	}
	return false
}

// copies reports whether a copy is the same and shares nothing.
func copies[T any](t *testing.T, copy func(T) T) {
	t.Helper()
	var x T
	fill(reflect.ValueOf(&x).Elem(), 7)
	y := copy(x)
	if !reflect.DeepEqual(x, y) || shares(reflect.ValueOf(x), reflect.ValueOf(y)) {
		t.Errorf("%T: %+v", x, y)
	}
	var zero T
	if got := copy(zero); !reflect.DeepEqual(got, zero) {
		t.Errorf("%T: %+v", zero, got)
	}
}

func TestCopies(t *testing.T) {
	copies(t, Disk)
	copies(t, Log)
	copies(t, Policy)
	copies(t, Node)
	copies(t, Fs)
	copies(t, Pipe)
	copies(t, Proc)
	copies(t, Kern)
	copies(t, Broker)
	copies(t, Session)
	copies(t, Word)
	copies(t, Cmd)
	copies(t, Cmds)
	copies(t, Inter)
	copies(t, List[int])
}

func TestEmptyListsBecomeNil(t *testing.T) {
	if List([]int{}) != nil || Each([]int{}, func(n int) int { return n }) != nil {
		t.Error("not nil")
	}
}
