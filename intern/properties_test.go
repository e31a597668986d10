package intern_test

import (
	"math/rand/v2"
	"slices"
	"testing"

	"corollary/api"
	"corollary/intern"
)

// generator makes the same values each time.
type generator struct{ *rand.Rand }

// value makes a valid value. There are few different ones of small depths, so that the same ones come again.
func (g generator) value(depth int) api.Value {
	if kind := g.IntN(6); depth > 1 && kind < 3 {
		if n := g.IntN(3); kind == 0 && n > 0 {
			return tuple(g.values(n+1, depth-1)...)
		}
		return cons([]string{"a", "b", "a.b"}[kind], g.values(g.IntN(3), depth-1)...)
	}
	n := g.IntN(3)
	return [...]api.Value{{Kind: api.Bool, N: int64(n % 2)}, num(int64(n - 1)), {Kind: api.Big, S: []string{"-1", "0", "1"}[n]}, text([]string{"", "a", "1"}[n]), tuple()}[g.IntN(5)]
}

func (g generator) values(n, depth int) []api.Value {
	l := make([]api.Value, n)
	for i := range l {
		l[i] = g.value(depth)
	}
	return l
}

// plain is a table that looks at all its values each time.
type plain struct{ values []api.Value }

func (p *plain) find(v api.Value) int {
	return slices.IndexFunc(p.values, func(w api.Value) bool { return same([]api.Value{v}, []api.Value{w}) })
}

func (p *plain) put(v api.Value) int {
	if p.find(v) < 0 {
		p.values = append(p.values, v)
	}
	return p.find(v)
}

// TestP4_3OneToOne holds a table against a plain one, through many calls of all sorts.
func TestP4_3OneToOne(t *testing.T) {
	for seed := range uint64(20) {
		g := generator{rand.New(rand.NewPCG(seed, 4))}
		x, p := intern.New(), &plain{}
		for range 200 {
			depth := 1 + g.IntN(4)
			switch g.IntN(4) {
			case 0:
				v := g.value(depth)
				checkPut(t, x, v, p.put(v))
			case 1:
				l := g.values(g.IntN(6), depth)
				var want []int
				for _, v := range l {
					want = append(want, p.put(v))
				}
				checkPutRow(t, x, l, want...)
			case 2:
				w := invalid()[g.IntN(len(invalid()))]
				checkRefused(t, x, w.v, append(g.values(g.IntN(6), depth), w.v), w.e)
			case 3:
				v := g.value(depth)
				if n, there := x.Find(v); there != (p.find(v) >= 0) || there && n != p.find(v) || !there && n != 0 {
					t.Errorf("Find(%s): %d, %t", brief(v), n, there)
				}
			}
		}
		checkHas(t, x, p.values...)
	}
}

// TestP4_3TheSameExactly puts each two of the different values, made twice, in a table of their own.
func TestP4_3TheSameExactly(t *testing.T) {
	again := different()
	for i, v := range different() {
		for k, w := range again {
			want := []int{0, 1}
			if i == k {
				want = []int{0, 0}
			}
			x := intern.New()
			if numbers, e := x.PutRow([]api.Value{v, w}); e != api.OK || !slices.Equal(numbers, want) || x.Len() != want[1]+1 {
				t.Errorf("%s: %v, %v", brief(v, w), numbers, e)
			}
		}
	}
}

// TestP4_3NumbersNeverChange puts many values, and asks for each number before and after that.
func TestP4_3NumbersNeverChange(t *testing.T) {
	const many = 50000
	x := intern.New()
	for n := range many {
		checkPut(t, x, tuple(num(int64(n)), text("a")), n)
		half := int64(n / 2)
		if v, e := x.At(n / 2); e != api.OK || !same([]api.Value{v}, []api.Value{tuple(num(half), text("a"))}) {
			t.Fatalf("At(%d), of %d: %s, %v", n/2, n, brief(v), e)
		}
	}
	for n := range many {
		checkPut(t, x, tuple(num(int64(n)), text("a")), n)
	}
	if row, e := x.Row(upTo(many)); e != api.OK || len(row) != many || x.Len() != many || row[many-1].L[0].N != many-1 {
		t.Errorf("%d values, %v; Len %d", len(row), e, x.Len())
	}
}

// TestP4_4PartsAreNotPut puts a value, and then what is in it.
func TestP4_4PartsAreNotPut(t *testing.T) {
	inner := tuple(text("b"), cons("nil"))
	whole := cons("a", num(1), tuple(num(2), inner))
	within := []api.Value{num(1), tuple(num(2), inner), num(2), inner, text("b"), cons("nil"), cons("a")}
	x := intern.New()
	checkPut(t, x, whole, 0)
	checkHas(t, x, whole)
	checkMissing(t, x, within...)
	checkPutRow(t, x, []api.Value{whole, whole}, 0, 0)
	checkMissing(t, x, within...)
	checkPutRow(t, x, within, 1, 2, 3, 4, 5, 6, 7)
	checkHas(t, x, append([]api.Value{whole}, within...)...)
}

// TestP4_4PartsThatAreThere puts what is in a value, and then the value.
func TestP4_4PartsThatAreThere(t *testing.T) {
	x := tableOf(t, num(1), num(2))
	checkMissing(t, x, tuple(num(1), num(2)))
	checkPut(t, x, tuple(num(1), num(2)), 2)
	checkPutRow(t, x, []api.Value{tuple(num(2), num(1)), num(2), cons("a", num(3)), num(3)}, 3, 1, 4, 5)
	checkHas(t, x, num(1), num(2), tuple(num(1), num(2)), tuple(num(2), num(1)), cons("a", num(3)), num(3))
}

// TestTablesSideBySide puts values in two tables by turns, some in both, with other numbers.
func TestTablesSideBySide(t *testing.T) {
	one, other := intern.New(), intern.New()
	checkPut(t, one, num(1), 0)
	checkHas(t, other)
	checkPut(t, other, num(2), 0)
	checkPutRow(t, one, []api.Value{text("a"), num(2)}, 1, 2)
	checkPutRow(t, other, []api.Value{cons("b"), num(1)}, 1, 2)
	checkRefused(t, one, tuple(num(1)), []api.Value{num(9), {}}, api.ErrForm)
	checkHas(t, one, num(1), text("a"), num(2))
	checkHas(t, other, num(2), cons("b"), num(1))
	checkMissing(t, one, cons("b"))
	checkMissing(t, other, text("a"))
	checkHas(t, intern.New())
}

// TestAnyTableEnds calls tables that New did not make: nothing panics.
func TestAnyTableEnds(t *testing.T) {
	made := tableOf(t, num(1))
	copied := *made
	for _, x := range []*intern.Table{{}, new(intern.Table), &copied, made} {
		for _, v := range []api.Value{num(1), num(2), tuple(num(1), num(3)), {}, endless()} {
			x.Find(v)
			x.Put(v)
			x.PutRow([]api.Value{num(4), v})
			for n := range 8 {
				x.At(n - 1)
				x.Row([]int{0, n - 1})
			}
			x.Len()
		}
	}
}
