package match

import (
	"slices"
	"strings"

	"ostler/api"
	"ostler/term"
)

// pairs is a valid binding that may grow. Its values may share memory with arguments.
type pairs api.Binding

// validPairs returns the pairs of a binding and whether it is valid; otherwise there are none. They have no spare capacity, so that the first one to be added moves them out of the argument's memory.
func validPairs(b api.Binding) (pairs, bool) {
	if !Valid(b) {
		return nil, false
	}
	return pairs(slices.Clip(b)), true
}

// place returns the index of a name, or the one at which it belongs, and whether it is there.
func (p pairs) place(name string) (int, bool) {
	return slices.BinarySearchFunc(p, name, func(x api.Bind, name string) int {
		return strings.Compare(x.Name, name)
	})
}

func (p pairs) value(name string) (api.Term, bool) {
	i, bound := p.place(name)
	if !bound {
		return api.Term{}, false
	}
	return p[i].Val, true
}

// bind adds a pair, and reports whether the name has no other value.
func (p *pairs) bind(name string, v api.Term) bool {
	i, bound := p.place(name)
	if bound {
		return term.Equal((*p)[i].Val, v)
	}
	*p = append(*p, api.Bind{})
	copy((*p)[i+1:], (*p)[i:])
	(*p)[i] = api.Bind{Name: name, Val: v}
	return true
}

// binding returns the pairs in memory of their own.
func (p pairs) binding() api.Binding {
	var b api.Binding
	for _, x := range p {
		b = append(b, api.Bind{Name: x.Name, Val: clone(x.Val)})
	}
	return b
}

// apply returns a copy of a term in which the bound variables are replaced.
func (p pairs) apply(t api.Term) api.Term {
	return transform(t, func(part api.Term) (api.Term, bool) {
		if part.Kind != api.TermVar {
			return api.Term{}, false
		}
		return p.value(part.Name)
	})
}

func (p pairs) applyAtom(a api.Atom) api.Atom {
	var args []api.Term
	for _, t := range a.Args {
		args = append(args, p.apply(t))
	}
	a.Args = args
	return a
}

// clone returns a copy of a term.
func clone(t api.Term) api.Term {
	return transform(t, func(api.Term) (api.Term, bool) { return api.Term{}, false })
}

// transform returns a copy of a term in which those parts are replaced for which a closure returns another term and true.
func transform(t api.Term, replace func(api.Term) (api.Term, bool)) api.Term {
	if other, replaced := replace(t); replaced {
		return clone(other)
	}
	var args []api.Term
	for _, a := range t.Args {
		args = append(args, transform(a, replace))
	}
	t.Args = args
	return t
}
