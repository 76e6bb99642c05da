package replay_test

import (
	"math"
	"slices"
	"strings"
	"testing"

	"turnspit/api"
	"turnspit/replay"
)

// empty is the text of a record of nothing.
const empty = "1 1 1\n\n\n-\n"

// reads holds that a text is read with an error, and then as nothing.
func reads(t *testing.T, want api.Errno, texts ...string) {
	t.Helper()
	for _, text := range texts {
		r, e := replay.Read(text)
		if e != want || e != api.OK && !isZero(r) {
			t.Errorf("Read of %.200q: %v, want %v", text, e, want)
		}
	}
}

// Promise 37.2: the text of records, by hand.
func TestText(t *testing.T) {
	for _, c := range []struct {
		r    replay.Record
		want string
	}{
		{made(t, least(), nil, nil, nil), empty}, // the chapter's example
		{made(t, api.Config{Procs: 64, Threads: 256, Gs: 65536}, []uint64{0}, []uint64{math.MaxUint64}, []api.Entry{ticks()}), "64 256 65536\n0\n18446744073709551615\ntick\n-\n"},
		{made(t, least(), nil, nil, slices.Repeat([]api.Entry{step(0)}, 13)), "1 1 1\n\n\nstep 0 x 13\n-\nstart g0 t0 p0\nexit g0 t0 p0\n"},
		{made(t, api.Config{Procs: 2, Threads: 3, Gs: 9}, []uint64{10, 0, 7, 1 << 60}, []uint64{1, 20, 3}, []api.Entry{step(2), step(2), back(1), watch()}), "2 3 9\n10 0 7 1152921504606846976\n1 20 3\nstep 2 x 2\nreturn 1\nmon\n-\n"},
	} {
		if text, e := replay.Write(c.r); text != c.want || e != api.OK {
			t.Errorf("Write: %q, %v, want %q", text, e, c.want)
		}
		if r, e := replay.Read(c.want); !same(r, c.r) || e != api.OK {
			t.Errorf("Read of %q: %v, %v", c.want, r, e)
		}
	}
}

// Promise 37.3: what is written is read as it was, and plays as it did.
func TestWrittenAndRead(t *testing.T) {
	for seed := range uint64(80) {
		r := some(t, seed+200)
		text, e := replay.Write(r)
		got, f := replay.Read(text)
		if e != api.OK || f != api.OK || !same(got, r) || !replay.Right(got) {
			t.Fatalf("seed %d: %v, %v", seed, e, f)
		}
		if again, _ := replay.Write(got); again != text {
			t.Errorf("seed %d: another text", seed)
		}
		x, _ := replay.World(got)
		if !slices.Equal(x.Mem().Words(), byHand(t, r, len(r.Script)).Mem().Words()) {
			t.Errorf("seed %d: it plays otherwise", seed)
		}
	}
}

// Promise 37.2: the longest records are written, and read.
func TestLongestText(t *testing.T) {
	draws := slices.Repeat([]uint64{math.MaxUint64}, replay.MaxDraws)
	l := slices.Repeat([]api.Entry{step(0), back(255)}, replay.MaxEntries/2)
	r := made(t, api.Config{Procs: 64, Threads: 256, Gs: 65536}, slices.Repeat([]uint64{1<<48 - 6}, api.MaxCode), draws, l)
	text, e := replay.Write(r)
	if got, f := replay.Read(text); e != api.OK || f != api.OK || !same(got, r) || len(r.Log) < 10 {
		t.Errorf("%d bytes: %v, %v, %d events", len(text), e, f, len(r.Log))
	}
}

// Promise 37.2: what is not a text such as Write's.
func TestReadForm(t *testing.T) {
	reads(t, api.ErrForm, "", "\n", "-\n", "1 1 1", "1 1 1\n", "1 1 1\n\n", "1 1 1\n\n\n", "1 1 1\n-\n", "1 1 1\n\n-\n", "1 1 1\n\n\n-", "1 1 1\n\n\n-\n\n", "1 1 1\n\n\n-\n-\n", "1 1 1\n\n\n--\n", "1 1 1\n\n\n -\n", "1 1 1\n\n\n- \n", "1 1 1\n\n\n-\r\n", "1 1 1\r\n\n\n-\n", "\n1 1 1\n\n\n-\n", "1 1 1\n\n\n\n-\n", " "+empty, empty+"x", empty+" ", empty+empty,
		"1 1\n\n\n-\n", "1 1 1 1\n\n\n-\n", "1 1 1 \n\n\n-\n", " 1 1 1\n\n\n-\n", "1  1 1\n\n\n-\n", "1\t1 1\n\n\n-\n", "01 1 1\n\n\n-\n", "1 1 00\n\n\n-\n", "+1 1 1\n\n\n-\n", "-1 1 1\n\n\n-\n", "1 1 -0\n\n\n-\n", "1,1,1\n\n\n-\n", "a 1 1\n\n\n-\n", "0x1 1 1\n\n\n-\n", "1_0 1 1\n\n\n-\n", "\n\n\n-\n", "１ 1 1\n\n\n-\n",
		"99999999999 1 1\n\n\n-\n", "1 1 2147483648\n\n\n-\n", "1 18446744073709551615 1\n\n\n-\n", "18446744073709551617 1 1\n\n\n-\n",
		"1 1 1\n5 \n\n-\n", "1 1 1\n 5\n\n-\n", "1 1 1\n \n\n-\n", "1 1 1\n5  5\n\n-\n", "1 1 1\n05\n\n-\n", "1 1 1\n+5\n\n-\n", "1 1 1\n-\n\n-\n", "1 1 1\n-5\n\n-\n", "1 1 1\nx\n\n-\n", "1 1 1\n18446744073709551616\n\n-\n", "1 1 1\nyield\n\n-\n",
		"1 1 1\n\n5 \n-\n", "1 1 1\n\n 5\n-\n", "1 1 1\n\n5 05\n-\n", "1 1 1\n\nx\n-\n", "1 1 1\n\n5,6\n-\n", "1 1 1\n\n18446744073709551616\n-\n", "1 1 1\n\nmon\n-\n", "1 1 1\n\n-\n-\n",
		"1 1 1\n\n\nmon\nmon\n-\n", "1 1 1\n\n\nmon x 1\n-\n", "1 1 1\n\n\nmon", "1 1 1\n\n\nmon\n", "1 1 1\n\n\nmon\n\n-\n", "1 1 1\n\n\n5\n-\n", "1 1 1\n\n\nstep 256\n-\n", "1 1 1\n\n\nstep\n-\n", "1 1 1\n\n\nmon -\n", "1 1 1\n\n\nmon-\n", "1 1 1\n\n\nstart g0 t0 p0\n-\n", "1 1 1\n\n\nstart g0 t0 p0\n",
		"1 1 1\n\n\n-\nmon\n", "1 1 1\n\n\n-\nstart g0 t0 p0", "1 1 1\n\n\n-\nstart g0 t0 p0\n\n", "1 1 1\n\n\n-\nstart g0 t256\n", "1 1 1\n\n\n-\nstart g65536 t0\n", "1 1 1\n\n\n-\nstart\n", "1 1 1\n\n\n-\n \n",
		// what has another form comes ahead of what is not right
		"1 1 0\n\n\n-", "1 1 0\n\n\nmon\nmon\n-\n", "0 0 0\n01\n\n-\n", "1 1 1\n\n\n-\nstart g0 t0 p0\nx\n")
}

// Promise 37.2: what is such a text, of a record that is not right.
func TestReadRule(t *testing.T) {
	reads(t, api.ErrRule, "0 0 0\n\n\n-\n", "1 1 0\n\n\n-\n", "0 1 1\n\n\n-\n", "2 1 1\n\n\n-\n", "65 65 1\n\n\n-\n", "1 257 1\n\n\n-\n", "1 1 65537\n\n\n-\n", "2147483647 2147483647 2147483647\n\n\n-\n",
		"1 1 1\n\n\n-\nstart g0 t0 p0\n", "1 1 1\n\n\nstep 0 x 13\n-\n", "1 1 1\n\n\nstep 0 x 13\n-\nstart g0 t0 p0\n", "1 1 1\n\n\nstep 0 x 13\n-\nexit g0 t0 p0\nstart g0 t0 p0\n", "1 1 1\n\n\nstep 0 x 13\n-\nstart g0 t0 p0\nexit g0 t0 p0\nexit g0 t0 p0\n", "1 1 1\n\n\nstep 0 x 12\n-\nstart g0 t0 p0\nexit g0 t0 p0\n", "1 1 1\n3\n\nstep 0 x 13\n-\nstart g0 t0 p0\nexit g0 t0 p0\n",
		"1 1 1\n\n\nmon x 8193\n-\n", "1 1 1\n\n\nmon x 8192\ntick\n-\n",
		"1 1 1\n"+strings.Repeat("3 ", api.MaxCode)+"3\n\n-\n", "1 1 1\n\n"+strings.Repeat("3 ", replay.MaxDraws)+"3\n-\n")
	reads(t, api.OK, empty, "1 1 1\n\n\nmon x 3\n-\n", "1 1 1\n\n\nmon x 8192\n-\n", "1 1 1\n\n\nstep 255\n-\n", "1 1 1\n\n\nstep 0 x 13\n-\nstart g0 t0 p0\nexit g0 t0 p0\n",
		"1 1 1\n"+strings.Repeat("3 ", api.MaxCode-1)+"3\n\n-\n", "1 1 1\n\n"+strings.Repeat("3 ", replay.MaxDraws-1)+"3\n-\n")
}

// Promise 37.2: a text of more than MaxBytes bytes is not read at all.
func TestReadLong(t *testing.T) {
	for _, text := range []string{strings.Repeat("x", replay.MaxBytes), "1 1 1\n\n\n" + strings.Repeat("mon\ntick\n", replay.MaxBytes/9) + "-\n", strings.Repeat("\n", replay.MaxBytes), empty + strings.Repeat("start g0 t0\n", replay.MaxBytes/12)} {
		text += strings.Repeat("x", max(0, replay.MaxBytes-len(text)))
		reads(t, api.ErrForm, text[:replay.MaxBytes])
		reads(t, api.ErrLong, text[:replay.MaxBytes]+"\n", text+text)
	}
	numbers := "1 1 1\n" + strings.Repeat("1 ", (replay.MaxBytes-len(empty))/2-1) + "1\n\n-\n"
	reads(t, api.ErrRule, numbers)
}

// Promise 37.3: a text that a slip has changed is none, or just that of what is read.
func TestReadSlips(t *testing.T) {
	r := made(t, api.Config{Procs: 2, Threads: 3, Gs: 4}, []uint64{10, 3, 7, 4}, []uint64{7, 12}, slices.Concat(slices.Repeat([]api.Entry{step(0)}, 60), []api.Entry{watch(), ticks(), step(1), step(1), back(0)}))
	text, _ := replay.Write(r)
	right, rule := 0, 0
	for at := 0; at <= len(text); at++ {
		for _, c := range []byte("0129 \n-xg") {
			slips := []string{text[:at] + string(c) + text[at:]}
			if at < len(text) {
				slips = append(slips, text[:at]+text[at+1:], text[:at]+string(c)+text[at+1:])
			}
			for _, slip := range slips {
				got, e := replay.Read(slip)
				switch e {
				case api.OK:
					right++
					if back, f := replay.Write(got); f != api.OK || back != slip {
						t.Errorf("Read of %q: %v", slip, got)
					}
				case api.ErrRule:
					rule++
				}
				if e != api.OK && !isZero(got) || e != api.OK && e != api.ErrRule && e != api.ErrForm {
					t.Errorf("Read of %q: %v", slip, e)
				}
			}
		}
	}
	if right < 10 || rule < 100 {
		t.Errorf("of slips %d are right, of %d the record is not", right, rule)
	}
}
