package find

import (
	"turnspit/api"
	"turnspit/idlem"
	"turnspit/idlep"
	"turnspit/layout"
	"turnspit/rest"
	"turnspit/ring"
)

// less is what is added to have one less.
const less = 1<<32 - 1

// giveUp looks at the global queue once more, with the lock, ahead of letting the processor go.
func (x *Find) giveUp() {
	x.acquire(func() { x.load(layout.GlobSize, x.letGo) })
}

// letGo lets the processor go, unless there is work, or somebody is needed, who this thread can be, if it does not spin already.
func (x *Find) letGo(size uint64) {
	switch {
	case size != 0:
		x.take(0, x.orElse(x.top))
	case x.Spins():
		x.idle()
	default:
		x.load(layout.Needs, x.serve)
	}
}

// serve is the one that is needed.
func (x *Find) serve(needs uint64) {
	if needs == 0 {
		x.idle()
		return
	}
	x.spin(func() { x.release(x.top) })
}

// idle lets the processor be idle.
func (x *Find) idle() {
	x.storeProc(layout.Status, api.PIdle, x.layProc)
}

// layProc lets the processor lie on the list.
func (x *Find) layProc() {
	put := idlep.New(x.layout, x.flow.Who(), x.P())
	x.p = put.Holds
	x.flow.Run(put, x.leave)
}

// leave naps, or, if the thread spins, counts it out: who counted must look once more, as others relied on it.
func (x *Find) leave() {
	if x.Spins() {
		x.flow.Add(x.layout.Word(layout.Spinning), less, x.countedOut)
		return
	}
	t := x.flow.Who()
	x.flow.Run(idlem.New(x.layout, t, t), func() { x.release(x.nap) })
}

// nap naps, and begins anew with what is given.
func (x *Find) nap() {
	nap := rest.New(x.layout, x.flow.Who())
	x.p, x.spins = nap.P, nap.Spins
	x.flow.Run(nap, x.top)
}

// countedOut spins no more.
func (x *Find) countedOut(uint64) {
	x.spins = nil
	x.release(x.lookBehind)
}

// lookBehind looks what came while the thread counted: at the global queue first.
func (x *Find) lookBehind() {
	x.acquire(func() { x.load(layout.GlobSize, x.comeBack) })
}

// comeBack takes some with another processor, if there is work, and one.
func (x *Find) comeBack(size uint64) {
	if size == 0 {
		x.release(x.lookAtRings)
		return
	}
	x.getProc(x.takeWith, x.lookAtRings)
}

// takeWith takes some with the processor that was got.
func (x *Find) takeWith() {
	x.take(0, func(g int) {
		x.run(func() { x.settle(g, x.top) })
	})
}

// getProc gets a processor, with the lock, and spins; if there is none, it tells that somebody is needed, gives the lock back, and goes on otherwise.
func (x *Find) getProc(then, otherwise func()) {
	get := idlep.NewGet(x.layout, x.flow.Who())
	x.p = get.P
	x.flow.Run(get, func() {
		if get.P() != api.None {
			x.spin(then)
			return
		}
		x.flow.Store(x.layout.Word(layout.Needs), 1, func() { x.release(otherwise) })
	})
}

// run lets the processor run.
func (x *Find) run(then func()) {
	x.storeProc(layout.Status, api.PRunning, then)
}

// lookAtRings looks at the rings, from the first one on.
func (x *Find) lookAtRings() {
	x.lookAtRing(0)
}

// lookAtRing looks at a ring, unless its processor is idle, and then at those behind it.
func (x *Find) lookAtRing(q int) {
	if q >= x.layout.Config().Procs {
		x.rest()
		return
	}
	behind := func() { x.lookAtRing(q + 1) }
	x.load(layout.Mask, func(mask uint64) {
		if idlep.Masked(mask, q) {
			behind()
			return
		}
		look := ring.New(x.layout, x.flow.Who(), q)
		x.flow.Run(look, func() { x.judge(look.Empty(), behind) })
	})
}

// judge begins anew with another processor, if a ring was not empty, and there is one.
func (x *Find) judge(empty bool, behind func()) {
	if empty {
		behind()
		return
	}
	x.acquire(func() { x.getProc(x.returnWith, x.rest) })
}

// returnWith begins anew with the processor that was got.
func (x *Find) returnWith() {
	x.release(func() { x.run(x.top) })
}

// rest comes to rest, and begins anew with the processor that the thread has then.
func (x *Find) rest() {
	come := rest.NewRest(x.layout, x.flow.Who())
	x.p, x.spins = come.P, come.Spins
	x.flow.Run(come, x.top)
}
