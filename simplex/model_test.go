package simplex_test

import (
	"maps"
	"math/big"
	"slices"
	"strconv"
	"strings"

	"steelyard/api"
	"steelyard/delta"
	"steelyard/simplex"
)

// pair is a number with a delta.
type pair [2]*big.Rat

// pairOf gives the pair of a number.
func pairOf(x api.Delta) pair { return pair{rat(x.A), rat(x.B)} }

// against tells whether a pair is less than another one (-1), is it (0), or is greater (1).
func (x pair) against(y pair) int {
	if order := x[0].Cmp(y[0]); order != 0 {
		return order
	}
	return x[1].Cmp(y[1])
}

// text gives the text of a pair.
func (x pair) text() string { return delta.Text(api.Delta{A: fromRat(x[0]), B: fromRat(x[1])}) }

// limit is a bound.
type limit struct {
	lit int
	at  pair
}

// model is a tableau as equations: of each row what comes to 0, the basic unknown -1 times; and its bounds, nil where there are none. It counts limbs: of what is reckoned on the way, and of what is there in the end instead of something else.
type model struct {
	basic        []int
	equations    []map[int]*big.Rat
	values       []pair
	lower, upper []*limit
	way, end     int
}

// modelOf gives the model of a tableau.
func modelOf(x api.Tableau) *model {
	m := &model{basic: slices.Clone(x.Basic)}
	for i, p := range x.Rows {
		e := map[int]*big.Rat{x.Basic[i]: big.NewRat(-1, 1)}
		for _, mono := range p.Monos {
			e[mono.Var] = rat(mono.Coef)
		}
		m.equations = append(m.equations, e)
	}
	for v, y := range x.Values {
		m.values = append(m.values, pairOf(y))
		m.lower, m.upper = append(m.lower, limitOf(x.Lower[v])), append(m.upper, limitOf(x.Upper[v]))
	}
	return m
}

// limitOf gives the limit of a bound.
func limitOf(e api.Edge) *limit {
	if e.Lit == 0 {
		return nil
	}
	return &limit{e.Lit, pairOf(e.At)}
}

// limbsOf gives how many limbs a rational number has, the greater one of both parts.
func limbsOf(x *big.Rat) int {
	limbs := (x.Num().BitLen() + 31) / 32
	if !x.IsInt() {
		limbs = max(limbs, (x.Denom().BitLen()+31)/32)
	}
	return limbs
}

// onWay counts a number that is reckoned.
func (m *model) onWay(x *big.Rat) *big.Rat {
	m.way = max(m.way, limbsOf(x))
	return x
}

// row gives the row of which an unknown is basic; -1, if it is of none.
func (m *model) row(v int) int { return slices.Index(m.basic, v) }

// bound gives an unknown a bound; two literals, if it can't be.
func (m *model) bound(v int, upper bool, lit int, at pair) []string {
	lower, higher := m.lower[v], m.upper[v]
	if upper && higher != nil && higher.at.against(at) <= 0 || !upper && lower != nil && lower.at.against(at) >= 0 {
		return nil
	}
	if upper && lower != nil && lower.at.against(at) > 0 {
		return []string{"1@" + strconv.Itoa(lit), "1@" + strconv.Itoa(lower.lit)}
	}
	if !upper && higher != nil && at.against(higher.at) > 0 {
		return []string{"1@" + strconv.Itoa(lit), "1@" + strconv.Itoa(higher.lit)}
	}
	if upper {
		m.upper[v] = &limit{lit, at}
	} else {
		m.lower[v] = &limit{lit, at}
	}
	if m.row(v) < 0 && (upper && m.values[v].against(at) > 0 || !upper && m.values[v].against(at) < 0) {
		m.update(v, at)
	}
	return nil
}

// step goes one step: what it comes to, and the reasons.
func (m *model) step() (int, []string) {
	for v, value := range m.values {
		row := m.row(v)
		if row < 0 {
			continue
		}
		if lower := m.lower[v]; lower != nil && value.against(lower.at) < 0 {
			return m.turn(row, v, lower, m.canRise, m.upper, m.lower)
		}
		if upper := m.upper[v]; upper != nil && value.against(upper.at) > 0 {
			return m.turn(row, v, upper, m.canFall, m.lower, m.upper)
		}
	}
	return simplex.Settled, nil
}

// canRise tells whether an unknown has no upper bound, or is below it.
func (m *model) canRise(v int) bool {
	return m.upper[v] == nil || m.values[v].against(m.upper[v].at) < 0
}

// canFall tells whether an unknown has no lower bound, or is above it.
func (m *model) canFall(v int) bool {
	return m.lower[v] == nil || m.values[v].against(m.lower[v].at) > 0
}

// turn brings a basic unknown to a bound by one that can go its way, and stands above 0 times, or can go the other way, and stands below 0 times.
func (m *model) turn(row, basic int, to *limit, with func(v int) bool, alike, other []*limit) (int, []string) {
	against := m.canFall
	if to == m.upper[basic] {
		against = m.canRise
	}
	why := []string{"1@" + strconv.Itoa(to.lit)}
	for _, v := range slices.Sorted(maps.Keys(m.equations[row])) {
		k := m.equations[row][v]
		switch {
		case v == basic:
		case k.Sign() > 0 && with(v) || k.Sign() < 0 && against(v):
			m.bring(row, basic, v, to.at)
			return simplex.Moved, nil
		case k.Sign() > 0:
			why = append(why, k.RatString()+"@"+strconv.Itoa(alike[v].lit))
		default:
			why = append(why, strings.TrimPrefix(k.RatString(), "-")+"@"+strconv.Itoa(other[v].lit))
		}
	}
	return simplex.Clash, why
}

// bring brings a basic unknown to a number by another one, which takes its place.
func (m *model) bring(row, basic, v int, at pair) {
	var to pair
	for part := range to {
		way := m.onWay(new(big.Rat).Sub(at[part], m.values[basic][part]))
		more := m.onWay(new(big.Rat).Quo(way, m.equations[row][v]))
		to[part] = m.onWay(new(big.Rat).Add(m.values[v][part], more))
		m.end = max(m.end, limbsOf(to[part]))
	}
	m.update(v, to)
	m.pivot(row, v)
}

// update lets an unknown be a number.
func (m *model) update(v int, x pair) {
	for part, y := range x {
		more := m.onWay(new(big.Rat).Sub(y, m.values[v][part]))
		m.values[v][part] = y
		for i, e := range m.equations {
			if k, ok := e[v]; ok {
				old := m.values[m.basic[i]][part]
				z := m.onWay(new(big.Rat).Add(old, m.onWay(new(big.Rat).Mul(k, more))))
				m.values[m.basic[i]][part], m.end = z, max(m.end, limbsOf(z))
			}
		}
	}
}

// pivot lets an unknown be basic of a row: it is -1 times in that equation then, and gone from all others.
func (m *model) pivot(row, v int) {
	times := new(big.Rat).Neg(new(big.Rat).Inv(m.equations[row][v]))
	for w, k := range m.equations[row] {
		m.equations[row][w] = m.onWay(new(big.Rat).Mul(k, times))
		m.end = max(m.end, limbsOf(m.equations[row][w]))
	}
	m.basic[row] = v
	for i, e := range m.equations {
		k, ok := e[v]
		if !ok || i == row {
			continue
		}
		for w, l := range m.equations[row] {
			old, ok := e[w]
			if !ok {
				old = new(big.Rat)
			}
			e[w] = m.onWay(new(big.Rat).Add(m.onWay(old), m.onWay(new(big.Rat).Mul(k, l))))
		}
		for w, l := range e {
			// Those that aren't in the other row are told anew, too.
			m.end = max(m.end, limbsOf(m.onWay(l)))
			if l.Sign() == 0 {
				delete(e, w)
			}
		}
	}
}

// text gives the text of the tableau that a model is.
func (m *model) text() string {
	var rows []string
	for i, e := range m.equations {
		line := strconv.Itoa(m.basic[i]) + ":"
		for _, v := range slices.Sorted(maps.Keys(e)) {
			if v != m.basic[i] {
				line += " " + e[v].RatString() + "@" + strconv.Itoa(v)
			}
		}
		rows = append(rows, line)
	}
	limitText := func(l *limit) string {
		if l == nil {
			return "-"
		}
		return strconv.Itoa(l.lit) + "@" + l.at.text()
	}
	return strings.Join([]string{strings.Join(rows, "; "), texts(m.values, " ", pair.text), texts(m.lower, " ", limitText), texts(m.upper, " ", limitText)}, " | ")
}
