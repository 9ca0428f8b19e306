package scope

import (
	"errors"
	"math"
	"strconv"

	"horizon/api"
)

// errNoValue: an expression names a const that has no value. What is wrong is told at that const's own expression, and there alone.
var errNoValue = errors.New("a const without a value")

// nodeError is what is wrong with an expression, and at which of its nodes: places in a text need not be different ones, places in a tree are.
type nodeError struct {
	node int
	err  error
}

func (e *nodeError) Error() string { return "node " + strconv.Itoa(e.node) + ": " + e.err.Error() }

func (e *nodeError) Unwrap() error { return e.err }

// constant is what a constant expression may name.
type constant struct {
	value int64
	// Whether it is known by its name alone, its own expression having no value.
	none bool
}

func known(consts []api.Const) map[string]constant {
	names := make(map[string]constant, len(consts))
	for _, c := range consts {
		if _, ok := names[c.Name]; !ok {
			names[c.Name] = constant{value: c.Value}
		}
	}
	return names
}

// folder computes constant expressions of a valid tree.
type folder struct {
	nodes  []api.Node
	consts map[string]constant
}

// fold is an expression's value, or a *nodeError.
func (f folder) fold(at int) (int64, error) {
	if err := f.refusal(at); err != nil {
		return 0, err
	}
	return f.value(at)
}

// refusal looks for what makes an expression no constant one, also where it would not be computed. A const without a value counts only where there is nothing else.
func (f folder) refusal(at int) error {
	var lacking error
	for end := past(f.nodes, at); at < end; at++ {
		err := f.flaw(f.nodes[at])
		if errors.Is(err, errNoValue) {
			lacking = &nodeError{at, err}
		} else if err != nil {
			return &nodeError{at, err}
		}
	}
	return lacking
}

// past is the place behind all that lies in a node of a valid tree.
func past(nodes []api.Node, at int) int {
	for len(nodes[at].Kids) > 0 {
		at = nodes[at].Kids[len(nodes[at].Kids)-1]
	}
	return at + 1
}

func (f folder) flaw(n api.Node) error {
	switch n.Kind {
	case api.NNumber:
		if tooLarge(n) {
			return api.ErrRange
		}
	case api.NName:
		named, ok := f.consts[n.Name]
		if !ok {
			return api.ErrUnknown
		}
		if named.none {
			return errNoValue
		}
	case api.NIndex, api.NNow, api.NMe, api.NFrom, api.NRoll, api.NWait:
		return api.ErrFold
	}
	return nil
}

func tooLarge(number api.Node) bool { return number.Num > math.MaxInt64 }

// value computes an expression in which there is no refusal.
func (f folder) value(at int) (int64, error) {
	n := f.nodes[at]
	switch n.Kind {
	case api.NNumber:
		return int64(n.Num), nil
	case api.NName:
		return f.consts[n.Name].value, nil
	}
	left, err := f.value(n.Kids[0])
	if err != nil {
		return 0, err
	}
	if n.Kind == api.NUnary {
		return unary(n.Op, left), nil
	}
	if n.Op == api.OpAnd && left == 0 || n.Op == api.OpOr && left != 0 {
		return truth(left != 0), nil
	}
	right, err := f.value(n.Kids[1])
	if err != nil {
		return 0, err
	}
	if cannot(n.Op, right) {
		return 0, &nodeError{at, api.ErrFold}
	}
	return binary(n, left, right), nil
}

func truth(yes bool) int64 {
	if yes {
		return 1
	}
	return 0
}

func unary(op int, a int64) int64 {
	switch op {
	case api.OpSub:
		return -a
	case api.OpFlip:
		return ^a
	}
	return truth(a == 0)
}

// cannot tells what the machine would fail at.
func cannot(op int, right int64) bool {
	switch op {
	case api.OpDiv, api.OpMod:
		return right == 0
	case api.OpShl, api.OpShr:
		return right < 0
	}
	return false
}

func binary(n api.Node, a, b int64) int64 {
	switch n.Kind {
	case api.NLeast:
		return min(a, b)
	case api.NMost:
		return max(a, b)
	}
	switch n.Op {
	case api.OpBitOr:
		return a | b
	case api.OpBitXor:
		return a ^ b
	case api.OpBitAnd:
		return a & b
	case api.OpShl:
		return a << b
	case api.OpShr:
		return a >> b
	case api.OpAdd:
		return a + b
	case api.OpSub:
		return a - b
	case api.OpMul:
		return a * b
	case api.OpDiv:
		return a / b
	case api.OpMod:
		return a % b
	}
	return truth(holds(n.Op, a, b))
}

// holds is asked of && and || only where the left side has not told.
func holds(op int, a, b int64) bool {
	switch op {
	case api.OpEq:
		return a == b
	case api.OpNe:
		return a != b
	case api.OpLt:
		return a < b
	case api.OpLe:
		return a <= b
	case api.OpGt:
		return a > b
	case api.OpGe:
		return a >= b
	}
	return b != 0
}
