package derive_test

import (
	"slices"

	"ostler/api"
	"ostler/depend"
	"ostler/derive"
	"ostler/finite"
	"ostler/join"
	"ostler/store"
	"ostler/term"
)

// The functions of this file do what the chapter defines, step by step and without regard to time. In every round all rules are evaluated.

// reference processes a component.
type reference struct {
	possible, certain       *store.Store
	components              [][]api.Sig
	current                 int // the number of the component
	newPossible, newCertain []api.Atom
	errors                  []api.Errno
}

func referenceDerive(p api.Prog) (possible, certain *store.Store, e api.Errno) {
	switch {
	case !derive.Valid(p):
		return nil, nil, api.ErrArg
	case depend.Conds(p) != api.OK:
		return nil, nil, depend.ErrCond
	}
	if _, e := finite.Ranks(p); e != api.OK {
		return nil, nil, e
	}
	if slices.ContainsFunc(p.Rules, func(r api.Rule) bool { return !referenceSafe(r) }) {
		return nil, nil, join.ErrUnsafe
	}
	x := &reference{possible: store.New(), certain: store.New(), components: depend.Components(p)}
	for x.current = range x.components {
		for again := true; again; {
			if again, e = x.round(p); e != api.OK {
				return nil, nil, e
			}
		}
	}
	return x.possible, x.certain, api.OK
}

// round reports whether something changed.
func (x *reference) round(p api.Prog) (bool, api.Errno) {
	x.newPossible, x.newCertain, x.errors = nil, nil, nil
	for _, r := range p.Rules {
		if r.Kind != api.RuleWeak && slices.ContainsFunc(r.Heads, func(h api.Head) bool { return x.isMember(h.Atom) }) {
			x.evaluate(r)
		}
	}
	changed := false
	for _, a := range x.newPossible {
		isNew, e := x.possible.Add(a)
		changed = changed || isNew
		x.errors = append(x.errors, e)
	}
	for _, a := range x.newCertain {
		isNew, _ := x.certain.Add(a)
		changed = changed || isNew
	}
	switch {
	case slices.Contains(x.errors, api.ErrLong), slices.Contains(x.errors, api.ErrArg):
		return false, api.ErrLong
	case slices.Contains(x.errors, api.ErrMany):
		return false, api.ErrMany
	}
	return changed, api.OK
}

func (x *reference) isMember(a api.Atom) bool {
	return slices.Contains(x.components[x.current], depend.Of(a))
}

func (x *reference) isEarlier(a api.Atom) bool {
	return slices.ContainsFunc(x.components[:x.current], func(c []api.Sig) bool { return slices.Contains(c, depend.Of(a)) })
}

func (x *reference) evaluate(r api.Rule) {
	flat := join.Flat(derive.Premises(r))
	bindings, e := join.Join(flat, x.possible, nil)
	x.errors = append(x.errors, e)
	for _, b := range bindings {
		body, heads := referenceGround(r, flat, b)
		elements, isPossible := x.isPossible(r, body, b)
		if !isPossible {
			continue
		}
		if r.Kind == api.RuleChoice {
			heads = nil
			for _, h := range r.Heads {
				for _, l := range x.elements(h.Cond, positiveOf(h.Atom), b) {
					heads = append(heads, l.Atom)
				}
			}
		}
		for _, a := range heads {
			if x.isMember(a) {
				x.newPossible = append(x.newPossible, a)
			}
		}
		if x.isCertain(r, body, elements) {
			x.newCertain = append(x.newCertain, heads...)
		}
	}
}

func positiveOf(a api.Atom) api.Lit { return api.Lit{Kind: api.LitAtom, Atom: a} }

// referenceGround returns the ground literals of the body of an instance that are atoms, and those of the heads of a disjunction.
func referenceGround(r api.Rule, flat []api.Lit, b api.Binding) (body []api.Lit, heads []api.Atom) {
	var ground []api.Lit
	for _, l := range flat {
		if l.Kind == api.LitAtom {
			l.Atom.Args = substitute(api.Term{Args: l.Atom.Args}, b).Args
			ground = append(ground, l)
		}
	}
	for _, x := range r.Body {
		if x.Kind == api.BodyLit && x.Lit.Kind == api.LitAtom {
			body = append(body, ground[0])
			ground = ground[1:]
		}
	}
	if r.Kind == api.RuleDisj {
		for i := range r.Heads {
			heads = append(heads, ground[i].Atom)
		}
	}
	return body, heads
}

func substitute(t api.Term, b api.Binding) api.Term {
	for _, x := range b {
		if t.Kind == api.TermVar && t.Name == x.Name {
			return x.Val
		}
	}
	t.Args = slices.Clone(t.Args)
	for i, a := range t.Args {
		t.Args[i] = substitute(a, b)
	}
	return t
}

// isPossible reports whether an instance is possible, and returns the ground conclusions of its conditional literals.
func (x *reference) isPossible(r api.Rule, body []api.Lit, b api.Binding) ([]api.Lit, bool) {
	for _, l := range body {
		if l.Not && x.certain.Has(l.Atom) && x.isEarlier(l.Atom) {
			return nil, false
		}
	}
	var all []api.Lit
	for _, e := range r.Body {
		if e.Kind != api.BodyCond {
			continue
		}
		for _, l := range x.elements(e.Cond, e.Lit, b) {
			all = append(all, l)
			switch {
			case l.Kind == api.LitComp && join.Order(l.Op, l.L, l.R):
			case l.Kind == api.LitAtom && !l.Not && x.possible.Has(l.Atom):
			case l.Kind == api.LitAtom && l.Not && (!x.certain.Has(l.Atom) || x.isMember(l.Atom)):
			default:
				return nil, false
			}
		}
	}
	return all, true
}

func (x *reference) isCertain(r api.Rule, body, elements []api.Lit) bool {
	if r.Kind != api.RuleDisj || len(r.Heads) != 1 || slices.ContainsFunc(r.Body, func(b api.Body) bool { return b.Kind == api.BodyAgg }) {
		return false
	}
	for _, l := range slices.Concat(body, elements) {
		switch {
		case l.Kind == api.LitComp && join.Order(l.Op, l.L, l.R):
		case l.Kind == api.LitAtom && !l.Not && x.certain.Has(l.Atom):
		case l.Kind == api.LitAtom && l.Not && x.isEarlier(l.Atom) && !x.possible.Has(l.Atom):
		default:
			return false
		}
	}
	return true
}

// elements returns the ground conclusions of the elements of a condition with one conclusion.
func (x *reference) elements(cond []api.Lit, concl api.Lit, b api.Binding) []api.Lit {
	rows, e := referenceElements(cond, []api.Lit{concl}, x.certain, b)
	x.errors = append(x.errors, e)
	return slices.Concat(rows...)
}

// referenceList returns the list that belongs to a condition and conclusions.
func referenceList(cond, concl []api.Lit) []api.Lit {
	l := slices.Clone(cond)
	for _, x := range concl {
		a := x.Atom
		if x.Kind == api.LitComp {
			a = atom("sides", x.L, x.R)
		}
		l = append(l, api.Lit{Kind: api.LitAtom, Not: true, Atom: a})
	}
	return l
}

func referenceElements(cond, concl []api.Lit, s *store.Store, b api.Binding) ([][]api.Lit, api.Errno) {
	var used []string
	for _, x := range b {
		used = append(used, x.Name)
	}
	flat := join.Flat(referenceList(cond, concl), used...)
	bindings, e := join.Join(flat, s, b)
	var rows [][]api.Lit
	for _, c := range bindings {
		var atoms []api.Lit
		for _, l := range flat {
			if l.Kind == api.LitAtom {
				l.Atom.Args = substitute(api.Term{Args: l.Atom.Args}, c).Args
				atoms = append(atoms, l)
			}
		}
		own := len(atoms) - len(concl)
		if slices.ContainsFunc(atoms[:own], func(l api.Lit) bool { return l.Not && s.Has(l.Atom) }) {
			continue
		}
		var row []api.Lit
		for i, x := range concl {
			a := atoms[own+i].Atom
			if x.Kind == api.LitComp {
				x.L, x.R = a.Args[0], a.Args[1]
			} else {
				x.Atom = a
			}
			row = append(row, x)
		}
		rows = append(rows, row)
	}
	return rows, e
}

// referenceSafe reports whether a derivable rule is safe.
func referenceSafe(r api.Rule) bool {
	flat := join.Flat(derive.Premises(r))
	var all []api.Term
	for _, l := range flat {
		if l.Kind == api.LitAtom {
			all = append(all, l.Atom.Args...)
		} else {
			all = append(all, l.L, l.R)
		}
	}
	var b api.Binding
	for _, name := range term.Vars(api.Term{Args: all}) {
		b = append(b, api.Bind{Name: name, Val: api.Term{Kind: api.TermSym, Name: "any"}})
	}
	safe := func(l []api.Lit, b api.Binding) bool {
		_, e := join.Join(l, store.New(), b)
		return e != join.ErrUnsafe
	}
	result := safe(flat, nil)
	for _, x := range r.Body {
		if x.Kind == api.BodyCond {
			result = result && safe(referenceList(x.Cond, []api.Lit{x.Lit}), b)
		}
		for _, e := range x.Elems {
			l := slices.Clone(e.Cond)
			for _, t := range e.Tuple {
				l = append(l, api.Lit{Kind: api.LitAtom, Not: true, Atom: atom("w", t)})
			}
			result = result && (x.Kind != api.BodyAgg || safe(join.Flat(l), b))
		}
	}
	for _, h := range r.Heads {
		result = result && (r.Kind != api.RuleChoice || safe(referenceList(h.Cond, []api.Lit{positiveOf(h.Atom)}), b))
	}
	return result
}
