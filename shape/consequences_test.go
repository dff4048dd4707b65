package shape_test

import (
	"slices"
	"testing"

	"ceiling/api"
)

// P4.4: reading the tokens of what is valid returns it and all tokens, also if others follow that belong to nothing.
func TestWrittenIsRead(t *testing.T) {
	for _, k := range kinds {
		k.writtenIsRead(t)
	}
	for _, x := range definitions() {
		types.readsBack(t, x)
	}
}

func (k kind[T]) writtenIsRead(t *testing.T) {
	m := newMaker(4)
	for range 3000 {
		k.readsBack(t, valid(m, k))
	}
}

func (k kind[T]) readsBack(t *testing.T, x T) {
	t.Helper()
	lines, e := k.lines(x, 3)
	l := flat(lines)
	if e != api.OK {
		t.Fatal(x, e)
	}
	if len(l) == 0 {
		return // nothing can be read
	}
	for _, end := range []string{"", "is", "then", "begin A : T;"} {
		y, n, e := k.front(slices.Concat(l, lexed(end)))
		if e != api.OK || n != len(l) || !k.same(x, y) || !same(x, y) {
			t.Fatalf("%q: %d %v", text(l), n, e)
		}
	}
}

// P4.4: what was read is valid, has at most as many tokens as were read, and is read from them again.
func TestReadIsWritten(t *testing.T) {
	for _, k := range kinds {
		k.readIsWritten(t)
	}
}

func (k kind[T]) readIsWritten(t *testing.T) {
	m := newMaker(5)
	some := writer{func() bool { return m.Intn(3) == 0 }}
	read, fewer := 0, 0
	for range 4000 {
		x := valid(m, k)
		l := lexed(joined(k.write(some, x, 0)))
		if len(l) > 0 {
			if y, n, e := k.front(l); e != api.OK || n != len(l) || !k.same(x, y) {
				t.Fatalf("%q: %d %v", text(l), n, e)
			}
		}
		if m.Intn(2) == 0 {
			l = m.disturbed(l)
		}
		y, n, e := k.front(l)
		if e != api.OK {
			continue
		}
		lines, e := k.lines(y, 0)
		if e != api.OK || !k.may(y) || len(flat(lines)) > n || n > len(l) {
			t.Fatalf("%q: %d %v", text(l), n, e)
		}
		read++
		if len(flat(lines)) < n {
			fewer++
		}
		k.readsBack(t, y)
	}
	if read < 1000 || fewer < 100 {
		t.Errorf("%T %d %d", *new(T), read, fewer)
	}
}
