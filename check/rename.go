package check

import (
	"strconv"

	"ostler/api"
	"ostler/term"
)

// counter counts variables that are not taken.
type counter struct {
	taken map[string]bool
	last  int
}

func (c *counter) next() string {
	for {
		c.last++
		name := "_" + strconv.Itoa(c.last)
		if !c.taken[name] {
			return name
		}
	}
}

// renamer gives each anonymous variable a name of its own.
type renamer struct{ counter }

func (n *renamer) rename(t api.Term) api.Term {
	if t.Kind == api.TermVar && t.Name == "_" {
		t.Name = n.next()
	}
	return t
}

func variables(r api.Rule) map[string]bool {
	names := map[string]bool{}
	for t := range terms(&r) {
		for _, name := range term.Vars(*t) {
			names[name] = true
		}
	}
	return names
}
