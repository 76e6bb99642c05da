package find

import (
	"turnspit/api"
	"turnspit/idlep"
	"turnspit/layout"
	"turnspit/order"
	"turnspit/rget"
	"turnspit/steal"
)

// bound is what Spinning and IdlePs are below, if they are to be trusted.
const bound = 1 << 31

// top begins, or begins anew, with the processor that the thread has.
func (x *Find) top() {
	x.loadProc(layout.Preempt, x.heed)
}

// heed heeds that the one ahead was to give way: its time is not left to the next one.
func (x *Find) heed(preempt uint64) {
	x.fresh = preempt != 0
	if x.fresh {
		x.storeProc(layout.Preempt, 0, x.lookTurns)
		return
	}
	x.lookTurns()
}

// lookTurns looks how many turns there were.
func (x *Find) lookTurns() {
	x.loadProc(layout.Turns, x.first)
}

// first looks at the global queue ahead of the own ring now and then, so that nobody waits there for ever.
func (x *Find) first(turns uint64) {
	if turns%api.Every != 0 {
		x.get()
		return
	}
	x.takeIfAny(1, x.get)
}

// takeIfAny takes out of the global queue, if it has any; if nothing was taken, it goes on otherwise.
func (x *Find) takeIfAny(most int, otherwise func()) {
	x.load(layout.GlobSize, func(size uint64) {
		if size == 0 {
			otherwise()
			return
		}
		x.acquire(func() { x.take(most, x.orElse(otherwise)) })
	})
}

// get gets one out of the own ring.
func (x *Find) get() {
	get := rget.New(x.layout, x.flow.Who(), x.P(), x.fresh)
	x.flow.Run(get, func() {
		x.inherits = get.Inherits()
		x.settle(get.G(), x.takeSome)
	})
}

// takeSome takes some out of the global queue, where the own ring has none.
func (x *Find) takeSome() {
	x.takeIfAny(0, x.consider)
}

// consider looks how many spin, unless the thread does.
func (x *Find) consider() {
	if x.Spins() {
		x.goThrough()
		return
	}
	x.load(layout.Spinning, func(spinning uint64) {
		x.load(layout.IdlePs, func(idle uint64) { x.maySpin(spinning, idle) })
	})
}

// maySpin spins, if few do: at most half of the processors that are not idle.
func (x *Find) maySpin(spinning, idle uint64) {
	if spinning < bound && idle < bound && 2*spinning+idle < uint64(x.layout.Config().Procs) {
		x.spin(x.goThrough)
		return
	}
	x.giveUp()
}

// goThrough goes through all rings, round by round.
func (x *Find) goThrough() {
	x.rounds = api.Rounds
	x.nextRound()
}

// nextRound goes through all rings in the order of another draw.
func (x *Find) nextRound() {
	if x.rounds == 0 {
		x.giveUp()
		return
	}
	x.rounds--
	x.others = order.Order(x.layout.Config().Procs, x.draws.Next())
	x.nextOther()
}

// nextOther looks whether the next one is idle, unless it is the own one.
func (x *Find) nextOther() {
	if len(x.others) == 0 {
		x.nextRound()
		return
	}
	q := x.others[0]
	x.others = x.others[1:]
	if q == x.P() {
		x.nextOther()
		return
	}
	x.load(layout.Mask, func(mask uint64) { x.stealFrom(q, mask) })
}

// stealFrom steals from one that is not idle, the next one too in the last round: that one is to be left to its owner, who may run it soon.
func (x *Find) stealFrom(q int, mask uint64) {
	if idlep.Masked(mask, q) {
		x.nextOther()
		return
	}
	thief := steal.New(x.layout, x.flow.Who(), x.P(), q, x.rounds == 0)
	x.holds = thief.Holds
	x.flow.Run(thief, func() { x.settle(thief.G(), x.nextOther) })
}
