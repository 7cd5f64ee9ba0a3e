package join

import (
	"slices"
	"strconv"

	"ostler/api"
	"ostler/term"
)

// flattener moves operations and intervals from atoms to equations for new variables.
type flattener struct {
	taken      map[string]bool
	count      int      // the number of the last name that was tried
	introduced []string // the new variables
	equations  []api.Lit
}

// newFlattener returns a flattener for a list. Its new variables differ from those that occur in the list, and from the given ones.
func newFlattener(l []api.Lit, used ...string) *flattener {
	f := &flattener{taken: map[string]bool{}}
	for _, name := range used {
		f.taken[name] = true
	}
	for _, x := range l {
		for _, name := range variables(slices.Concat(x.Atom.Args, []api.Term{x.L, x.R})...) {
			f.taken[name] = true
		}
	}
	return f
}

// variables returns the variables of terms, each once.
func variables(l ...api.Term) []string {
	return term.Vars(api.Term{Args: l})
}

func (f *flattener) flatten(l []api.Lit) []api.Lit {
	var flat []api.Lit
	for _, x := range l {
		part := clone
		if x.Kind == api.LitAtom {
			part = f.replace
		}
		f.equations = nil
		x.Atom.Args = collect(x.Atom.Args, part)
		x.L, x.R = clone(x.L), clone(x.R)
		flat = append(append(flat, x), f.equations...)
	}
	return flat
}

// replace returns a copy of a term in which new variables take the places of operations and intervals.
func (f *flattener) replace(t api.Term) api.Term {
	if t.Kind != api.TermOp && t.Kind != api.TermRange {
		t.Args = collect(t.Args, f.replace)
		return t
	}
	v := api.Term{Kind: api.TermVar, Name: f.newName()}
	f.equations = append(f.equations, api.Lit{Kind: api.LitComp, Op: api.OpEq, L: v, R: clone(t)})
	return v
}

func (f *flattener) newName() string {
	for {
		f.count++
		if name := "#" + strconv.Itoa(f.count); !f.taken[name] {
			f.introduced = append(f.introduced, name)
			return name
		}
	}
}

func clone(t api.Term) api.Term {
	t.Args = collect(t.Args, clone)
	return t
}

// collect returns the results of a function for the given items, in new memory.
func collect[K, T any](items []K, result func(K) T) []T {
	results := slices.Grow([]T(nil), len(items))
	for _, x := range items {
		results = append(results, result(x))
	}
	return results
}
