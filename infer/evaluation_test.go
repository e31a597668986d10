package infer_test

import (
	"cmp"
	"math/big"
	"slices"
	"testing"

	"corollary/api"
	"corollary/value"
)

// failure is thrown where an expression fails as it may: a number that is too large, a text that is too long, a division by 0.
type failure struct{}

// misfit is thrown where it does what no expression may whose types have been found.
type misfit string

// evaluation gives the values of expressions, in which each part must have a value of the right kind.
type evaluation struct {
	m   api.Module
	env map[string]api.Value
}

// valueOf is the value of an expression, if it does not fail.
func (v evaluation) valueOf(t *testing.T, x api.Expr) (result api.Value, ok bool) {
	t.Helper()
	defer func() {
		switch thrown := recover().(type) {
		case nil, failure:
		case misfit:
			t.Errorf("%s", thrown)
		default:
			panic(thrown)
		}
	}()
	return v.of(x), true
}

func (v evaluation) of(x api.Expr) api.Value {
	switch x.Kind {
	case api.Lit:
		return x.Value
	case api.Var:
		result, known := v.env[x.Name]
		require(known, "a variable without a value: "+x.Name)
		return result
	case api.If:
		if truth(v.of(x.Args[0])) {
			return v.of(x.Args[1])
		}
		return v.of(x.Args[2])
	}
	var l []api.Value
	for _, arg := range x.Args {
		l = append(l, v.of(arg))
	}
	switch x.Kind {
	case api.Tup:
		return api.Value{Kind: api.Tuple, L: l}
	case api.Make:
		return api.Value{Kind: api.Cons, S: x.Name, L: l}
	case api.Field:
		return v.field(x.Name, l[0])
	}
	if len(l) == 1 {
		return one(x.Name, l[0])
	}
	return two(x.Name, l[0], l[1])
}

func require(is bool, what string) {
	if !is {
		panic(misfit(what))
	}
}

func (v evaluation) field(name string, x api.Value) api.Value {
	require(x.Kind == api.Cons, "the field "+name+" of what is no constructor")
	for _, d := range v.m.Types {
		i := slices.IndexFunc(d.Cons, func(c api.ConsDef) bool { return c.Name == x.S })
		if i < 0 {
			continue
		}
		k := slices.IndexFunc(d.Cons[i].Fields, func(f api.FieldDef) bool { return f.Name == name })
		require(len(d.Cons) == 1 && k >= 0 && len(x.L) == len(d.Cons[i].Fields), "no field "+name+" of "+x.S)
		return x.L[k]
	}
	panic(misfit("no type of " + x.S))
}

func truth(x api.Value) bool {
	require(x.Kind == api.Bool, "a condition that is no bool")
	return x.N == 1
}

func boolean(is bool) api.Value {
	if is {
		return api.Value{Kind: api.Bool, N: 1}
	}
	return api.Value{Kind: api.Bool}
}

func textIn(x api.Value) string {
	require(x.Kind == api.Text, "no text")
	return x.S
}

// number is the value of an Int, or of a Big.
func number(x api.Value) *big.Int {
	if x.Kind == api.Int {
		return big.NewInt(x.N)
	}
	require(x.Kind == api.Big, "no number")
	n, ok := new(big.Int).SetString(x.S, 10)
	require(ok, "no Big")
	return n
}

// numbered is a number as a value of a Kind, if it is not too large.
func numbered(kind uint8, n *big.Int) api.Value {
	result := api.Value{Kind: api.Big, S: n.String()}
	if kind == api.Int {
		result = api.Value{Kind: api.Int, N: n.Int64()}
		if !n.IsInt64() {
			panic(failure{})
		}
	}
	return checked(result)
}

func checked(x api.Value) api.Value {
	if value.Check(x) != api.OK {
		panic(failure{})
	}
	return x
}

func one(name string, x api.Value) api.Value {
	switch name {
	case "not":
		return boolean(!truth(x))
	case "len":
		return api.Value{Kind: api.Int, N: int64(len(textIn(x)))}
	case "big":
		require(x.Kind == api.Int, "big of no int")
		return numbered(api.Big, number(x))
	case "int":
		require(x.Kind == api.Big, "int of no big")
		return numbered(api.Int, number(x))
	}
	return numbered(x.Kind, new(big.Int).Neg(number(x)))
}

func two(name string, x, y api.Value) api.Value {
	switch name {
	case "and":
		return boolean(truth(x) && truth(y))
	case "or":
		return boolean(truth(x) || truth(y))
	case "++":
		return checked(api.Value{Kind: api.Text, S: textIn(x) + textIn(y)})
	case "+", "-", "*", "/", "%":
		require(x.Kind == y.Kind, "numbers of different kinds")
		return calculated(name, x.Kind, number(x), number(y))
	}
	require(areAlike(x, y), "a comparison of "+value.Show(x)+" and "+value.Show(y))
	order := cmp.Compare(value.Cmp(x, y), 0)
	return boolean(map[string]bool{"==": order == 0, "!=": order != 0, "<": order < 0, "<=": order <= 0, ">": order > 0, ">=": order >= 0}[name])
}

func calculated(name string, kind uint8, x, y *big.Int) api.Value {
	result := new(big.Int)
	if (name == "/" || name == "%") && y.Sign() == 0 {
		panic(failure{})
	}
	switch name {
	case "+":
		result.Add(x, y)
	case "-":
		result.Sub(x, y)
	case "*":
		result.Mul(x, y)
	case "/":
		result.Quo(x, y)
	case "%":
		result.Rem(x, y)
	}
	return numbered(kind, result)
}

// areAlike tells whether two values may be of one type, as far as their kinds tell.
func areAlike(x, y api.Value) bool {
	if x.Kind != y.Kind {
		return false
	}
	if x.Kind == api.Cons && x.S != y.S {
		return true // of several constructors
	}
	return slices.EqualFunc(x.L, y.L, areAlike)
}
