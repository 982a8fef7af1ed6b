package subtype

import (
	"math/rand"
	"reflect"
	"slices"
	"testing"

	"scarf/api"
)

// maker makes types and contracts by chance.
type maker struct {
	*rand.Rand
	miss int // one of so many things is any one
}

func one[T any](m *maker, l ...T) T { return l[m.Intn(len(l))] }

func newMaker(seed int64) *maker {
	m := &maker{Rand: rand.New(rand.NewSource(seed))}
	m.miss = one(m, 2, 10, 30, 100, 1000)
	return m
}

func (m *maker) names(n int) []string {
	var l []string
	for range n {
		l = append(l, one(m, "a", "b", "c", "", "ab"))
	}
	return l
}

// typ makes a type of resources by their numbers, within which there are others as often as told, at most.
func (m *maker) typ(left int, resource func() int) api.Type {
	t := api.Type{Kind: one(m, api.TU8, api.TString, api.TU64, api.TOwn, api.TOwn, api.TBorrow, api.TEnum, 0)}
	if left > 0 && m.Intn(2) == 0 {
		t.Kind = one(m, api.TList, api.TTuple, api.TRecord, api.TVariant, api.TOption, api.TResult)
		for range 1 + m.Intn(3) {
			t.L = append(t.L, m.typ(left-1, resource))
		}
	}
	switch t.Kind {
	case api.TOwn, api.TBorrow:
		t.R = resource()
	case api.TRecord, api.TVariant, api.TEnum:
		t.Names = m.names(max(1, len(t.L)))
	}
	return t
}

// spoil changes a field, or a list, anywhere in a thing.
func (m *maker) spoil(v reflect.Value) {
	switch v.Kind() {
	case reflect.Struct:
		m.spoil(v.Field(m.Intn(v.NumField())))
	case reflect.Slice:
		n := v.Len()
		switch {
		case n > 0 && m.Intn(3) > 0:
			m.spoil(v.Index(m.Intn(n)))
		case n > 0 && m.Intn(3) == 0:
			v.Set(v.Slice(0, n-1))
		case n > 1 && m.Intn(2) == 0:
			reflect.Swapper(v.Interface())(m.Intn(n), m.Intn(n))
		case n > 0 && m.Intn(2) == 0:
			v.Set(reflect.Append(v, v.Index(m.Intn(n))))
		default:
			v.Set(reflect.Append(v, reflect.Zero(v.Type().Elem())))
		}
	case reflect.Int:
		v.SetInt(one(m, 0, 1, 2, -1, 20, 21, 1<<62, v.Int()+1, v.Int()-1))
	case reflect.String:
		v.SetString(one(m, "", "a", "b", "import p", "export p", "p", v.String()+"x"))
	}
}

// turnedBy tells a type as another one has it by m; what has no place in it is any number.
func (m *maker) turnedBy(t api.Type, by []int) api.Type {
	if t.Kind == api.TOwn || t.Kind == api.TBorrow {
		r := m.Intn(4)
		if t.R >= 0 && t.R < len(by) {
			r = by[t.R]
		}
		t.R = r
	}
	for i := range t.L {
		t.L[i] = m.turnedBy(t.L[i], by)
	}
	return t
}

func TestRandomTypes(t *testing.T) {
	count := map[bool]int{}
	for seed := range int64(40000) {
		m := newMaker(seed)
		var by []int
		for range 1 + m.Intn(4) {
			by = append(by, m.Intn(6)-m.Intn(m.miss+1)/m.miss)
		}
		a := m.typ(4, func() int { return m.Intn(len(by)+1) - m.Intn(m.miss+1)/m.miss })
		b := m.turnedBy(copied(a), by)
		for range m.Intn(3) {
			if m.Intn(2) == 0 {
				m.spoil(reflect.ValueOf(&b).Elem())
			}
		}
		want := plainSame(a, b, by)
		count[want]++
		same(t, a, b, want, by...)
		f, g := fn("f", a, a, b), fn("g", b, b, b)
		sigs(t, f, g, plainSigs(f, g, by), by...)
		g.T[1] = m.turnedBy(copied(b), by)
		sigs(t, f, g, plainSigs(f, g, by), by...)
		f, g = fn("f", u8, a), fn("f", u8, b)
		sigs(t, f, g, want, by...)
	}
	t.Log(count)
	if count[true] < 10000 || count[false] < 10000 {
		t.Error(count)
	}
}

// sig makes a function by its name: most often the same one, of resources by their names, each of which has a place in a list.
func (m *maker) sig(name, word string, res []string) api.Sig {
	seed := int64(len(name)) + int64(name[0])
	if m.Intn(m.miss) == 0 {
		seed = m.Int63n(1 << 40)
	}
	own := &maker{Rand: rand.New(rand.NewSource(seed))}
	s := api.Sig{Name: name}
	typ := func() api.Type {
		return own.typ(2, func() int {
			text := word + one(own, "p", "q", "r")
			at := slices.Index(res, text)
			if m.Intn(10*m.miss) == 0 {
				at = m.Intn(len(res)+2) - 1
			}
			return at
		})
	}
	for range own.Intn(4) {
		s.T = append(s.T, typ())
	}
	s.P = own.names(len(s.T))
	s.R = typ()
	return s
}

// contract makes one of few functions, and resources in any order.
func (m *maker) contract() api.Contract {
	res := []string{"import p", "import q", "import r", "export p", "export q", "export r"}
	m.Shuffle(len(res), func(i, k int) { res[i], res[k] = res[k], res[i] })
	for m.Intn(m.miss) == 0 {
		at := m.Intn(len(res))
		res = slices.Insert(res, at, one(m, append(res, "", "import ", "p")...))
	}
	c := api.Contract{Res: res}
	for _, name := range []string{"f", "g", "hh"} {
		if m.Intn(2) == 0 {
			c.Ins = append(c.Ins, m.sig(name, "import ", res))
		}
		if m.Intn(2) == 0 {
			c.Outs = append(c.Outs, m.sig(name, "export ", res))
		}
		if m.Intn(4*m.miss) == 0 {
			c.Outs = append(c.Outs, m.sig(name, "import ", res))
			c.Ins = append(c.Ins, m.sig(name, "import ", res))
		}
	}
	m.Shuffle(len(c.Ins), func(i, k int) { c.Ins[i], c.Ins[k] = c.Ins[k], c.Ins[i] })
	m.Shuffle(len(c.Outs), func(i, k int) { c.Outs[i], c.Outs[k] = c.Outs[k], c.Outs[i] })
	if m.Intn(m.miss) == 0 {
		c = copied(c)
		m.spoil(reflect.ValueOf(&c).Elem())
	}
	return c
}

// looser makes a contract that most often asks for less than another one, with its resources in another order.
func (m *maker) looser(c api.Contract) api.Contract {
	c = copied(c)
	by := m.Perm(len(c.Res))
	res := make([]string, len(c.Res))
	for i, s := range c.Res {
		res[by[i]] = s
	}
	c.Res = res
	for _, s := range slices.Concat(c.Ins, c.Outs) {
		for i := range s.T {
			s.T[i] = m.turnedBy(s.T[i], by)
		}
	}
	for _, l := range [][]api.Sig{c.Ins, c.Outs} {
		for i := range l {
			l[i].R = m.turnedBy(l[i].R, by)
		}
	}
	c.Ins = append(c.Ins, m.sig(one(m, "h", "ii"), "import ", res))
	c.Outs = c.Outs[:m.Intn(len(c.Outs)+1)]
	m.Shuffle(len(c.Ins), func(i, k int) { c.Ins[i], c.Ins[k] = c.Ins[k], c.Ins[i] })
	m.Shuffle(len(c.Outs), func(i, k int) { c.Outs[i], c.Outs[k] = c.Outs[k], c.Outs[i] })
	return c
}

// Whatever contracts have, the answers are those of the second reading; and what fits what fits something fits that.
func TestRandomContracts(t *testing.T) {
	fit, link := map[api.Errno]int{}, map[api.Errno]int{}
	chains := 0
	for seed := range int64(5000) {
		m := newMaker(seed)
		l := []api.Contract{m.contract()}
		for len(l) < 4 {
			c := m.contract()
			if m.Intn(3) > 0 {
				c = m.looser(l[len(l)-1])
			}
			l = append(l, c)
		}
		ok := [4][4]int{}
		for i, a := range l {
			for k, b := range l {
				e, f := plainFits(a, b), plainLinks(a, b)
				fits(t, a, b, e)
				links(t, a, b, f)
				fit[e]++
				link[f]++
				if e == api.OK {
					ok[i][k] = 1
				}
			}
		}
		for n := range 64 {
			i, k, j := n/16, n/4%4, n%4
			if ok[i][k]*ok[k][j] > 0 {
				if i != k && k != j {
					chains++
				}
				fits(t, l[i], l[j], api.OK)
			}
		}
	}
	t.Log(fit, link, chains)
	for _, count := range []map[api.Errno]int{fit, link} {
		if len(count) != 3 || count[api.OK] < 10000 || count[api.ErrName] < 10000 || count[api.ErrType] < 5000 {
			t.Error(count)
		}
	}
	if chains < 5000 {
		t.Error(chains)
	}
}
