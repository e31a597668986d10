package infer

// operator is what is required of the arguments of an operator, and its type.
type operator struct {
	args   string // the type of each argument; if there is none, all of them have the same
	result string // its type; if there is none, that of the first argument
	number bool   // whether the first argument must be a number
}

func newOperators() map[string]operator {
	calculation, comparison, connection := operator{number: true}, operator{result: "bool"}, operator{args: "bool", result: "bool"}
	return map[string]operator{
		"+": calculation, "-": calculation, "*": calculation, "/": calculation, "%": calculation, "neg": calculation,
		"==": comparison, "!=": comparison, "<": comparison, "<=": comparison, ">": comparison, ">=": comparison,
		"and": connection, "or": connection, "not": connection,
		"++":  {args: "text", result: "text"},
		"len": {args: "text", result: "int"},
		"big": {args: "int", result: "big"},
		"int": {args: "big", result: "int"},
	}
}
