package thread

import (
	"turnspit/api"
	"turnspit/cell"
	"turnspit/find"
	"turnspit/flow"
	"turnspit/layout"
	"turnspit/ready"
	"turnspit/rest"
	"turnspit/spawn"
	"turnspit/sysc"
	"turnspit/wake"
)

const (
	first = 0         // the thread that has a processor at the beginning, and that processor
	less  = 1<<32 - 1 // what is added to have one less
)

// nap naps until a processor is given, and then finds a goroutine with that.
func (x *Thread) nap() {
	nap := rest.New(x.layout, x.flow.Who())
	x.does, x.p, x.spins = Naps, nap.P, nap.Spins
	x.flow.Run(nap, x.seek)
}

// rest comes to rest, without a processor, and then finds a goroutine with the one that it has.
func (x *Thread) rest() {
	come := rest.NewRest(x.layout, x.flow.Who())
	x.does, x.p, x.spins = Rests, come.P, come.Spins
	x.flow.Run(come, x.seek)
}

// seek finds a goroutine with the processor that it has.
func (x *Thread) seek() {
	x.found = find.New(x.layout, x.flow.Who(), x.P(), x.Spins(), x.draws)
	x.does, x.p, x.spins, x.holds = Finds, x.found.P, x.found.Spins, x.found.Holds
	x.flow.Run(x.found, x.have)
}

// have has found one; who spins counts out, and lets another one look in its place.
func (x *Thread) have() {
	x.g, x.inherits = x.found.G(), x.found.Inherits()
	if !x.Spins() {
		x.start()
		return
	}
	x.does = CountsOut
	x.flow.Add(x.layout.Word(layout.Spinning), less, x.countedOut)
}

// countedOut spins no more, and wakes some thread.
func (x *Thread) countedOut(uint64) {
	x.spins = nil
	some := wake.NewWake(x.layout, x.flow.Who())
	x.hand, x.counts = some.Holds, some.Counts
	x.flow.Run(some, x.start)
}

// start starts the goroutine in the hand.
func (x *Thread) start() {
	x.does = Starts
	x.flow.Store(x.layout.G(x.g, layout.GStatus), api.GRunning, x.started)
}

// started has it run; what was asked of the one ahead is not asked of one with a turn of its own.
func (x *Thread) started() {
	x.holds = nil
	x.tell(api.EvStart, api.None)
	if x.inherits {
		x.run()
		return
	}
	x.flow.Add(x.proc(layout.Turns), 1, x.counted)
}

// counted goes on behind the turn that it counted.
func (x *Thread) counted(uint64) {
	x.flow.Store(x.proc(layout.Preempt), 0, x.run)
}

// run lets the goroutine run on.
func (x *Thread) run() {
	x.does = Runs
	x.flow.Load(x.proc(layout.Preempt), x.goOn)
}

// goOn lets the goroutine do a step, unless it is to give way.
func (x *Thread) goOn(preempt uint64) {
	if preempt != 0 {
		x.giveWay(ready.Preempted, api.EvPreempt)
		return
	}
	x.obey(x.arena.Step(x.g))
}

// obey does what an instruction says.
func (x *Thread) obey(i api.Instr) {
	switch i.Kind {
	case api.InCompute:
		x.run()
	case api.InSpawn:
		x.begin(i.Arg)
	case api.InYield:
		x.giveWay(ready.Yields, api.EvYield)
	case api.InPark:
		x.giveWay(ready.Parks, api.EvPark)
	case api.InReady:
		x.letGoOn(i.Arg)
	case api.InSyscall:
		x.goIn()
	default:
		x.exit()
	}
}

// begin spawns another goroutine, with a program.
func (x *Thread) begin(program int) {
	one := spawn.New(x.layout, x.arena, x.flow.Who(), x.P(), program)
	x.does, x.holds, x.hand, x.counts = Spawns, one.Holds, one.Hand, one.Counts
	x.watch(one, func() (kind, other int) {
		if one.Refused() {
			return api.EvRefused, api.None
		}
		return when(one.G() != api.None, api.EvSpawn), one.G()
	}, x.run)
}

// letGoOn readies the goroutine that a number tells.
func (x *Thread) letGoOn(number int) {
	one := ready.New(x.layout, x.flow.Who(), x.P(), number)
	x.does, x.holds, x.hand, x.counts = Readies, one.Holds, one.Hand, one.Counts
	x.watch(one, func() (kind, other int) { return when(one.G() != api.None, api.EvReady), one.G() }, x.run)
}

// giveWay lets the goroutine give way, which is an event of a kind, and then finds one.
func (x *Thread) giveWay(how, event int) {
	give := ready.NewGive(x.layout, x.flow.Who(), x.P(), x.g, how)
	x.does, x.holds, x.hand, x.counts = Gives, give.Holds, give.Hand, give.Counts
	x.watch(give, func() (kind, other int) { return when(give.Gave(), event), api.None }, x.seek)
}

// exit ends the goroutine, and then finds one.
func (x *Thread) exit() {
	end := spawn.NewEnd(x.layout, x.flow.Who(), x.g)
	x.does = Ends
	x.watch(end, func() (kind, other int) { return when(end.Ended(), api.EvExit), api.None }, x.seek)
}

// goIn goes into a call.
func (x *Thread) goIn() {
	x.left = x.P()
	in := sysc.New(x.layout, x.flow.Who(), x.left, x.g)
	x.does = GoesIn
	x.watch(in, func() (kind, other int) { return when(in.Went(), api.EvEnter), api.None }, x.wait)
}

// wait is in the call: nothing is to come, until it returns.
func (x *Thread) wait() {
	x.does, x.p = InCall, nil
}

// comeOut comes out of the call.
func (x *Thread) comeOut() {
	out := sysc.NewOut(x.layout, x.flow.Who(), x.left, x.g)
	x.does, x.p, x.holds = ComesOut, out.P, out.Holds
	x.watch(out, func() (kind, other int) {
		if out.Runs() {
			return api.EvReturn, api.None
		}
		return when(out.Came(), api.EvQueue), api.None
	}, x.goOnOut)
}

// goOnOut goes on with what it has behind the call: a goroutine that runs, one that is to start, or none.
func (x *Thread) goOnOut() {
	switch {
	case x.mine:
		x.run()
	case x.P() != api.None:
		x.inherits = false
		x.start()
	default:
		x.rest()
	}
}

// proc is the place of one of the processor's words.
func (x *Thread) proc(field int) int {
	return x.layout.Proc(x.P(), field)
}

// none is no event.
const none = 0

// when is an event's kind, if it came.
func when(came bool, kind int) int {
	if came {
		return kind
	}
	return none
}

// watched is a machine that is looked at behind each of its steps, ahead of what follows it.
type watched struct {
	flow.Stepper
	look func()
}

// Step does a step.
func (x watched) Step(m *cell.Mem) bool {
	done := x.Stepper.Step(m)
	x.look()
	return done
}

// watch goes on with a machine, and tells its event, which is none until it comes, at the step at which it comes.
func (x *Thread) watch(machine flow.Stepper, event func() (kind, other int), then func()) {
	came := false
	look := func() {
		if kind, other := event(); kind != none && !came {
			came = true
			x.tell(kind, other)
		}
	}
	x.flow.Run(watched{machine, look}, then)
}

// tell tells an event of the goroutine; it may be the last one that this thread has of it.
func (x *Thread) tell(kind, other int) {
	x.event = api.Event{Kind: kind, G: x.g, Other: other, Thread: x.flow.Who(), Proc: x.P()}
	x.told = true
	switch kind {
	case api.EvStart:
		x.mine = true
	case api.EvYield, api.EvPreempt, api.EvPark, api.EvQueue, api.EvExit:
		x.mine = false
	}
}
