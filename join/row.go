package join

import (
	"maps"
	"slices"

	"ostler/api"
	"ostler/term"
)

// row contains the values of the bound variables. Rows may share the arguments of their values, which do not change.
type row []api.Term

// extend appends extensions of a row to a list of rows: one for each list of values of further variables. There must not be too many.
func extend(rows []row, r row, further []row) ([]row, api.Errno) {
	if len(rows)+len(further) > api.MaxInsts {
		return nil, api.ErrMany
	}
	for i, values := range further {
		if i < len(further)-1 {
			rows = append(rows, slices.Concat(r, values))
		} else {
			// The last one takes over the memory of the row, so that long rows are rarely copied.
			rows = append(rows, append(r, values...))
		}
	}
	return rows, api.OK
}

// bound is a set of bound variables, with their places in rows.
type bound map[string]int

func (b bound) add(names ...string) {
	for _, name := range names {
		if !b.has(name) {
			place := len(b)
			b[name] = place
		}
	}
}

// has reports whether all of the given variables are bound.
func (b bound) has(names ...string) bool {
	return !slices.ContainsFunc(names, b.lacks)
}

func (b bound) lacks(name string) bool {
	_, found := b[name]
	return !found
}

// apply returns a term whose variables are bound with the values of a row in their places.
func (b bound) apply(t api.Term, r row) api.Term {
	if t.Kind == api.TermVar {
		return r[b[t.Name]]
	}
	t.Args = collect(t.Args, func(a api.Term) api.Term { return b.apply(a, r) })
	return t
}

// separate returns the names of a binding, and their values.
func separate(b api.Binding) ([]string, row) {
	return collect(b, func(x api.Bind) string { return x.Name }), collect(b, func(x api.Bind) api.Term { return x.Val })
}

// bindings returns the distinct bindings of rows, in order, without the hidden variables.
func (b bound) bindings(rows []row, hidden ...string) []api.Binding {
	visible := maps.Clone(b)
	for _, name := range hidden {
		delete(visible, name)
	}
	names := slices.Sorted(maps.Keys(visible))
	rows = collect(rows, func(r row) row {
		return collect(names, func(name string) api.Term { return r[b[name]] })
	})
	compare := func(r, s row) int { return slices.CompareFunc(r, s, term.Compare) }
	slices.SortFunc(rows, compare)
	rows = slices.CompactFunc(rows, func(r, s row) bool { return compare(r, s) == 0 })
	return collect(rows, func(r row) api.Binding { return binding(names, r) })
}

// binding returns a binding that shares no memory with its values.
func binding(names []string, values row) api.Binding {
	var b api.Binding
	for i, name := range names {
		b = append(b, api.Bind{Name: name, Val: clone(values[i])})
	}
	return b
}
