package tree

import (
	"fmt"
	"reflect"
	"regexp"
	"strings"

	"weftway/api"
)

// spot is a place in a tree where something can be changed: a field, or an element of a list.
type spot struct {
	name  string // as Items[0].Body[1].Name
	value reflect.Value
}

// spots are all places of the tree that x leads to but structs, whose fields are.
func spots(x any) []spot {
	var out []spot
	collect("", reflect.ValueOf(x).Elem(), &out)
	return out
}

func collect(name string, v reflect.Value, out *[]spot) {
	switch v.Kind() {
	case reflect.Struct:
		for i := range v.NumField() {
			collect(name+"."+v.Type().Field(i).Name, v.Field(i), out)
		}
		return
	case reflect.Slice:
		for i := range v.Len() {
			collect(fmt.Sprint(name, "[", i, "]"), v.Index(i), out)
		}
	}
	*out = append(*out, spot{name, v})
}

// others are values that the spot doesn't have.
func (s spot) others() []reflect.Value {
	var out []reflect.Value
	add := func(x any) {
		v := reflect.ValueOf(x).Convert(s.value.Type())
		if !reflect.DeepEqual(v.Interface(), s.value.Interface()) {
			out = append(out, v)
		}
	}
	switch s.value.Kind() {
	case reflect.String:
		for _, x := range []string{"", "q", "Q", "let", "Box", "*", "_", "a-b", strings.Repeat("n", 16), strings.Repeat("N", 17)} {
			add(x)
		}
	case reflect.Uint8:
		for x := range 40 {
			add(x)
		}
		add(255)
	case reflect.Slice:
		out = s.otherLists()
	default:
		for _, x := range []int{-1, 0, 1, 2, 8, 9} {
			add(x)
		}
	}
	return out
}

// otherLists are longer ones by a zero and by the last one once more, and a shorter one.
func (s spot) otherLists() []reflect.Value {
	v := s.value
	longer := func(x reflect.Value) reflect.Value {
		l := reflect.MakeSlice(v.Type(), 0, v.Len()+1)
		return reflect.Append(reflect.AppendSlice(l, v), x)
	}
	out := []reflect.Value{longer(reflect.Zero(v.Type().Elem()))}
	if n := v.Len(); n > 0 {
		out = append(out, longer(v.Index(n-1)), v.Slice(0, n-1), v.Slice(1, n))
	}
	return out
}

func (s spot) isAt() bool { return s.name == ".At" || strings.HasSuffix(s.name, ".At") }

// with is what try answers while the spot has that value.
func (s spot) with(v reflect.Value, try func() bool) bool {
	old := reflect.ValueOf(s.value.Interface())
	defer s.value.Set(old)
	s.value.Set(v)
	return try()
}

// apart is a copy that shares nothing with x, made without the package's own.
func apart[T any](x T) T {
	var out T
	copyInto(reflect.ValueOf(&out).Elem(), reflect.ValueOf(&x).Elem())
	return out
}

func copyInto(to, from reflect.Value) {
	switch from.Kind() {
	case reflect.Struct:
		for i := range from.NumField() {
			copyInto(to.Field(i), from.Field(i))
		}
	case reflect.Slice:
		if from.IsNil() {
			return
		}
		to.Set(reflect.MakeSlice(from.Type(), from.Len(), from.Len()))
		for i := range from.Len() {
			copyInto(to.Index(i), from.Index(i))
		}
	default:
		to.Set(from)
	}
}

// full is a tree in which each field has something, so many levels of lists deep.
func full[T any](levels int) T {
	var out T
	n := 0
	fill(reflect.ValueOf(&out).Elem(), levels, &n)
	return out
}

func fill(v reflect.Value, levels int, n *int) {
	*n++
	switch v.Kind() {
	case reflect.Struct:
		for i := range v.NumField() {
			fill(v.Field(i), levels, n)
		}
	case reflect.Slice:
		if levels == 0 {
			return
		}
		v.Set(reflect.MakeSlice(v.Type(), 2, 2))
		for i := range 2 {
			fill(v.Index(i), levels-1, n)
		}
	case reflect.String:
		v.SetString(fmt.Sprint("s", *n))
	case reflect.Uint8:
		v.SetUint(uint64(*n%250 + 1))
	default:
		v.SetInt(int64(*n))
	}
}

var atField = regexp.MustCompile(`At:-?\d+`)

// written is all of a tree as a text, nil and empty lists alike, without any At.
func written(x any) string {
	s := strings.ReplaceAll(fmt.Sprintf("%#v", x), "(nil)", "{}")
	return atField.ReplaceAllString(s, "")
}

// steps is a place of so many steps.
func steps(n int) api.Place {
	x := api.Place{Name: "x"}
	for i := range n {
		x.Path = append(x.Path, []string{"*", "a"}[i%2])
	}
	return x
}
