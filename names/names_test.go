// Package names holds the given names, limits and errors against the document.
package names

import (
	"errors"
	"math"
	"testing"

	"turnspit/api"
)

// The section Errors: each error has its number, and its name.
func TestErrors(t *testing.T) {
	want := []struct {
		e    api.Errno
		name string
	}{
		{api.OK, "ok"}, {api.ErrArg, "arg"}, {api.ErrLong, "long"}, {api.ErrForm, "form"},
		{api.ErrNone, "none"}, {api.ErrRange, "range"}, {api.ErrRule, "rule"}, {api.ErrTwice, "twice"},
	}
	for i, x := range want {
		if int(x.e) != i || x.e.Error() != x.name {
			t.Errorf("error %d: %d, %s", i, int(x.e), x.e.Error())
		}
	}
	for _, n := range []int{math.MinInt, -1, 8, math.MaxInt} {
		if got := api.Errno(n).Error(); got != "unknown" {
			t.Errorf("error %d: %s", n, got)
		}
	}
	var e error = api.ErrRule
	if !errors.Is(e, api.ErrRule) || errors.Is(e, api.ErrForm) {
		t.Errorf("an Errno is an error itself")
	}
}

// The section Words: the limits are those of the document.
func TestLimits(t *testing.T) {
	got := [...]int{api.MaxProcs, api.MaxThreads, api.MaxGs, api.MaxCode, api.RingSize, api.Half, api.Every, api.Quantum, api.Rounds, api.Tries, api.None}
	want := [...]int{64, 256, 65536, 4096, 256, 128, 61, 10, 4, 3, -1}
	if got != want {
		t.Errorf("limits: %v, want %v", got, want)
	}
}

// The section Words: given names have the numbers of the document, in its order.
func TestGivenNames(t *testing.T) {
	lists := map[string][]int{
		"accesses":     {api.AcNone, api.AcLoad, api.AcStore, api.AcSwap, api.AcAdd},
		"instructions": {api.InExit, api.InCompute, api.InSpawn, api.InYield, api.InPark, api.InReady, api.InSyscall},
		"goroutines":   {api.GIdle, api.GRunnable, api.GRunning, api.GWaiting, api.GSyscall, api.GDead},
		"processors":   {api.PIdle, api.PRunning, api.PSyscall},
		"entries":      {0, api.EnStep, api.EnMon, api.EnTick, api.EnReturn},
		"events":       {0, api.EvStart, api.EvSpawn, api.EvRefused, api.EvYield, api.EvPreempt, api.EvPark, api.EvReady, api.EvEnter, api.EvReturn, api.EvQueue, api.EvExit},
	}
	for what, l := range lists {
		for i, n := range l {
			if n != i {
				t.Errorf("%s: %v", what, l)
				break
			}
		}
	}
}
