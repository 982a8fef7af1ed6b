package handles

import (
	"slices"

	"scarf/api"
)

// plain is a second reading of the chapter: one list of all handles, each with the calls that it is lent for.
type plain struct {
	insts int
	maker []int
	calls []int
	all   []entry
}

// entry is a handle in an instance's table; lent has the depth of a call for each time that it is lent.
type entry struct {
	inst, h, r, rep int
	own             bool
	call            int
	lent            []int
}

func newPlain(insts int, maker []int) *plain {
	return &plain{insts: insts, maker: slices.Clone(maker)}
}

func (p *plain) does(s step) said {
	switch s.op {
	case "make":
		return p.make(s.i, s.r, s.x)
	case "put":
		return p.put(s.i, s.r, s.x)
	case "borrow":
		return p.borrow(s.i, s.r, s.x)
	case "enter":
		return said{trap: p.enter(s.i)}
	case "leave":
		return said{trap: p.leave()}
	}
	at := slices.IndexFunc(p.all, func(e entry) bool { return e.inst == s.i && e.h == s.x && e.r == s.r })
	if at < 0 {
		return said{trap: api.TrapHandle}
	}
	e := &p.all[at]
	switch s.op {
	case "rep":
		if p.maker[s.r] != s.i {
			return said{trap: api.TrapHandle}
		}
		return said{n: e.rep}
	case "lend":
		if len(p.calls) == 0 {
			return said{trap: api.TrapHandle}
		}
		e.lent = append(e.lent, len(p.calls))
		return said{n: e.rep}
	case "take":
		if !e.own {
			return said{trap: api.TrapHandle}
		}
	}
	if len(e.lent) > 0 {
		return said{trap: api.TrapBorrow}
	}
	a := said{n: e.rep, own: e.own && s.op == "drop"}
	p.all = slices.Delete(p.all, at, at+1)
	return a
}

// wrong tells whether there is no such instance, resource, or number.
func (p *plain) wrong(i, r, rep int) bool {
	return i < 0 || i >= p.insts || r < 0 || r >= len(p.maker) || rep < 0 || rep > 4294967295
}

// new puts an entry at the least index at which there is none.
func (p *plain) new(e entry) said {
	for h := 1; h <= 256; h++ {
		if !slices.ContainsFunc(p.all, func(x entry) bool { return x.inst == e.inst && x.h == h }) {
			e.h = h
			p.all = append(p.all, e)
			return said{n: h}
		}
	}
	return said{trap: api.TrapTable}
}

func (p *plain) make(i, r, rep int) said {
	if p.wrong(i, r, rep) || p.maker[r] != i {
		return said{trap: api.TrapHandle}
	}
	return p.new(entry{inst: i, r: r, rep: rep, own: true})
}

func (p *plain) put(i, r, rep int) said {
	if p.wrong(i, r, rep) {
		return said{trap: api.TrapHandle}
	}
	return p.new(entry{inst: i, r: r, rep: rep, own: true})
}

func (p *plain) borrow(i, r, rep int) said {
	switch {
	case p.wrong(i, r, rep) || len(p.calls) == 0:
		return said{trap: api.TrapHandle}
	case p.maker[r] == i:
		return said{n: rep}
	}
	return p.new(entry{inst: i, r: r, rep: rep, call: len(p.calls)})
}

func (p *plain) enter(i int) api.Trap {
	if i < 0 || i >= p.insts || slices.Contains(p.calls, i) {
		return api.TrapEnter
	}
	p.calls = append(p.calls, i)
	return api.NoTrap
}

func (p *plain) leave() api.Trap {
	n := len(p.calls)
	if n == 0 {
		return api.TrapLeave
	}
	if slices.ContainsFunc(p.all, func(e entry) bool { return !e.own && e.call == n }) {
		return api.TrapBorrow
	}
	for i := range p.all {
		p.all[i].lent = slices.DeleteFunc(p.all[i].lent, func(call int) bool { return call == n })
	}
	p.calls = p.calls[:n-1]
	return api.NoTrap
}

// state tells all that there is.
func (p *plain) state() state {
	var s state
	s.calls = some(slices.Clone(p.calls))
	for _, e := range p.all {
		s.all[e.inst] = append(s.all[e.inst], api.Handle{H: e.h, R: e.r, Rep: e.rep, Own: e.own, Lends: len(e.lent), Call: e.call})
	}
	for _, l := range s.all {
		slices.SortFunc(l, func(a, b api.Handle) int { return a.H - b.H })
	}
	return s
}

// clone makes another one that is alike.
func (p *plain) clone() *plain {
	c := &plain{insts: p.insts, maker: slices.Clone(p.maker), calls: slices.Clone(p.calls), all: slices.Clone(p.all)}
	for i := range c.all {
		c.all[i].lent = slices.Clone(c.all[i].lent)
	}
	return c
}
