package call

import (
	"testing"

	"reprieve/api"
	"reprieve/arena"
	"reprieve/cache"
	"reprieve/clock"
	"reprieve/epoch"
	"reprieve/eras"
	"reprieve/hazard"
	"reprieve/leaky"
	"reprieve/pool"
	"reprieve/quiet"
	"reprieve/smr"
	"reprieve/span"
	"reprieve/tagged"
	"reprieve/vmem"
)

// plain is a runner by the chapter's words, upon the layers below alone. Of calls it knows what was asked for, and what was answered; when they began and ended it looks up among the events.
type plain struct {
	setup   api.Setup
	facts   api.Facts
	w       *vmem.World
	a       *arena.Arena
	k       *cache.Cache
	scheme  smr.Reclaimer
	object  Object
	ops     map[api.Op]bool
	asked   []api.Item
	answers map[uint64]api.Answer
	skipped int
}

// plainly is one of a scheme that there is.
func plainly(t testing.TB, s api.Setup) *plain {
	t.Helper()
	s.Config = smr.Clamp(s.Config)
	p := &plain{setup: s, ops: map[api.Op]bool{}, answers: map[uint64]api.Answer{}}
	p.facts = api.Facts{Threads: s.Config.Threads, Base: 103 + smr.Words(s.Config.Threads), Slots: s.Config.Slots}
	p.w, _ = vmem.New(p.facts.Base+arena.Words(s.Config.Slots), s.Config.Threads)
	t.Cleanup(p.w.Close)
	p.a, _ = arena.New(p.w, p.facts.Base, s.Config.Slots)
	free, _ := pool.New(p.a, 101)
	free.Fill(p.w.Setup())
	p.k, _ = cache.New(p.a, free, s.Config.Threads, s.Config.Cache)
	era, _ := clock.New(p.w, 100, s.Config.Era)
	b := smr.New(s.Config, p.w, p.a, p.k, era, 103)
	switch s.Scheme {
	case api.Leaky:
		p.scheme = leaky.New(b)
	case api.Hazard:
		p.scheme = hazard.New(b)
	case api.Epoch:
		p.scheme = epoch.New(b)
	case api.Quiet:
		p.scheme = quiet.New(b)
	case api.Eras:
		p.scheme = eras.New(b)
	case api.Span:
		p.scheme = span.New(b)
	case api.Tagged:
		p.scheme = tagged.New(b)
	}
	return p
}

func (p *plain) use(o Object, ops ...api.Op) {
	p.object = o
	p.ops = map[api.Op]bool{}
	for _, op := range ops {
		p.ops[op] = true
	}
}

// reason is a cell of the table's last column.
type reason struct {
	holds bool
	e     api.Errno
}

// why is an item skipped? The first reason that holds tells it.
func (p *plain) why(x api.Item) api.Errno {
	missing := x.Thread < 0 || x.Thread >= p.setup.Config.Threads
	runs := p.w.Running(x.Thread)
	table := map[int][]reason{
		1: {{p.object == nil, api.ErrState}, {missing, api.ErrRange}, {runs, api.ErrBusy}, {!p.ops[x.Op], api.ErrArg}},
		2: {{missing, api.ErrRange}, {!runs, api.ErrNone}},
		3: {{missing, api.ErrRange}, {runs, api.ErrBusy}},
		4: {{missing, api.ErrRange}, {runs, api.ErrBusy}, {p.setup.Scheme != api.Quiet, api.ErrArg}},
	}
	row, is := table[x.Kind]
	for _, cell := range append(row, reason{!is, api.ErrArg}) {
		if cell.holds {
			return cell.e
		}
	}
	return api.OK
}

// item is the table's middle column.
func (p *plain) item(x api.Item) api.Errno {
	if e := p.why(x); e != api.OK {
		p.skipped++
		return e
	}
	switch x.Kind {
	case 1:
		n, o := uint64(len(p.asked)), p.object
		p.asked = append(p.asked, x)
		p.w.Start(x.Thread, func(t *vmem.Thread) {
			t.Note(api.Note{Kind: api.NoteCall, N: n})
			a := o.Do(t, x)
			t.Note(api.Note{Kind: api.NoteReturn, N: n, Code: a.Code})
			p.answers[n] = a
		})
	case 2:
		p.w.Pick(x.Thread)
	case 3:
		p.w.Start(x.Thread, func(t *vmem.Thread) { p.scheme.Flush(t) })
	case 4:
		p.w.Start(x.Thread, func(t *vmem.Thread) { p.scheme.(*quiet.Quiet).Offline(t) })
	}
	return api.OK
}

// finish counts picks, of which there may be so many.
func (p *plain) finish(most int) (n int, e api.Errno) {
	threads := p.setup.Config.Threads
	for again := true; again; {
		again = false
		for id := range threads {
			if !p.w.Running(id) {
				continue
			}
			if n == most {
				return n, api.ErrLong
			}
			p.w.Pick(id)
			n++
			again = true
		}
	}
	for flush := range 3 * threads {
		p.w.Start(flush%threads, func(t *vmem.Thread) { p.scheme.Flush(t) })
		for ; p.w.Running(flush % threads); n++ {
			if n == most {
				return n, api.ErrLong
			}
			p.w.Pick(flush % threads)
		}
	}
	return n, api.OK
}

func (p *plain) report() api.Report {
	x := api.Report{Setup: p.setup, Facts: p.facts, Events: p.w.Events(), Skipped: p.skipped, Fault: p.w.Fault()}
	for n, asked := range p.asked {
		d := api.Done{Thread: asked.Thread, Op: asked.Op, Key: asked.Key, Value: asked.Value, Begun: -1, Ended: -1}
		for _, e := range x.Events {
			if e.Kind == api.EvNote && e.Note.N == uint64(n) && e.Note.Kind == api.NoteCall {
				d.Begun = e.Seq
			}
			if e.Kind == api.EvNote && e.Note.N == uint64(n) && e.Note.Kind == api.NoteReturn {
				d.Ended, d.Answer = e.Seq, p.answers[uint64(n)]
			}
		}
		x.Calls = append(x.Calls, d)
	}
	for thread := 0; thread <= p.setup.Config.Threads; thread++ {
		x.Retired = append(x.Retired, p.scheme.Retired(thread))
	}
	return x
}

// spread is a row of numbers that is the same each time.
type spread uint64

func (s *spread) below(n int) int {
	*s = *s*6364136223846793005 + 1442695040888963407
	return int(uint64(*s) >> 33 % uint64(n))
}
