package simplex

import (
	"steelyard/api"
	"steelyard/delta"
	"steelyard/nat"
	"steelyard/ratio"
	"steelyard/tableau"
)

// astray gives the row of the least basic unknown that is beyond a bound, and the side on which it is; false, if there is none.
func astray(t api.Tableau) (row int, from side, ok bool) {
	for i, v := range t.Basic[:min(len(t.Basic), len(t.Rows))] {
		if !isUnknown(t, v) || ok && v >= t.Basic[row] {
			continue
		}
		for _, s := range sides(t) {
			if s.past(v, t.Values[v]) > 0 {
				row, from, ok = i, s, true
				break
			}
		}
	}
	return row, from, ok
}

// helper gives the least unknown of a row by which the row's sum can come back from a side; false, if there is none.
func helper(t api.Tableau, row int, from side) (api.Mono, bool) {
	for _, m := range t.Rows[row].Monos {
		if isUnknown(t, m.Var) && goal(t, from, m).past(m.Var, t.Values[m.Var]) < 0 {
			return m, true
		}
	}
	return api.Mono{}, false
}

// goal gives the side that an unknown goes to, so that a sum in which it stands so many times comes back from a side.
func goal(t api.Tableau, from side, m api.Mono) side {
	both := sides(t)
	if ratio.Sign(m.Coef) == from.sign {
		return both[0]
	}
	return both[1]
}

// reasons tells why a row's sum can't come back from a side: each of its unknowns is at its bound.
func reasons(t api.Tableau, row int, from side) []api.Reason {
	list := []api.Reason{once(from.edges[t.Basic[row]].Lit)}
	for _, m := range t.Rows[row].Monos {
		if isUnknown(t, m.Var) {
			times := ownRatio(m.Coef)
			times.Num.Neg = false
			list = append(list, api.Reason{Lit: goal(t, from, m).edges[m.Var].Lit, Coef: times})
		}
	}
	return list
}

// once gives a literal that is taken once.
func once(lit int) api.Reason { return api.Reason{Lit: lit, Coef: ratio.Of(1)} }

// move lets an unknown of a row bring the row's sum back to its bound on a side, and be basic of that row.
func move(b *nat.Bench, t *api.Tableau, row int, from side, m api.Mono) api.Errno {
	basic := t.Basic[row]
	way := delta.Sub(b, from.edges[basic].At, t.Values[basic])
	more := delta.Scale(b, ratio.Div(b, ratio.Of(1), m.Coef), way)
	if code := tableau.Update(b, t, m.Var, delta.Add(b, t.Values[m.Var], more)); code != api.OK {
		return code
	}
	return tableau.Pivot(b, t, row, m.Var)
}
