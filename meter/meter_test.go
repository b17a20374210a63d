package meter

import (
	"math"
	"math/big"
	"math/rand"
	"testing"

	"roost/api"
)

// In the tests' names stands which promise they hold.

const (
	huge   = math.MaxFloat64
	least  = math.SmallestNonzeroFloat64
	beyond = 1.0000000000000002 // the float behind 1
)

var (
	inf   = math.Inf(1)
	nan   = math.NaN()
	minus = math.Copysign(0, -1)
)

func made(t testing.TB, rate, burst float64) *Bucket {
	t.Helper()
	b, e := New(rate, burst)
	if b == nil || e != api.OK {
		t.Fatalf("New(%v, %v): %v", rate, burst, e)
	}
	return b
}

// same holds floats against each other by their bits, but for NaN, of which there is one.
func same(x, y float64) bool {
	return math.IsNaN(x) && math.IsNaN(y) || math.Float64bits(x) == math.Float64bits(y)
}

func takes(t testing.TB, b *Bucket, now, cost float64, want api.Errno) {
	t.Helper()
	if e := b.Take(now, cost); e != want {
		t.Errorf("Take(%v, %v): %v, not %v", now, cost, e, want)
	}
}

func levels(t testing.TB, b *Bucket, now, want float64) {
	t.Helper()
	if v := b.Level(now); !same(v, want) {
		t.Errorf("Level(%v): %v, not %v", now, v, want)
	}
}

func waits(t testing.TB, b *Bucket, now, cost, want float64) {
	t.Helper()
	if v := b.Wait(now, cost); !same(v, want) {
		t.Errorf("Wait(%v, %v): %v, not %v", now, cost, v, want)
	}
}

func refuses(t testing.TB, rate, burst float64) {
	t.Helper()
	if b, e := New(rate, burst); b != nil || e != api.ErrArg {
		t.Errorf("New(%v, %v): %v, %v", rate, burst, b, e)
	}
}

func TestRuns(t *testing.T) {
	refuses(t, 1, nan)
	refuses(t, -1, 1)
	refuses(t, 1, inf)
	made(t, minus, minus)

	b := made(t, 2, 10)
	takes(t, b, 0, 10, api.OK)
	takes(t, b, 0, 1, api.ErrRate)
	levels(t, b, 3, 6)
	takes(t, b, 3, 6, api.OK)
	takes(t, b, 2, 0, api.OK)

	b = made(t, 2, 10)
	takes(t, b, 0, 11, api.ErrRange)
	takes(t, b, 0, -1, api.ErrArg)
	takes(t, b, nan, 1, api.ErrArg)
	takes(t, b, -inf, 1, api.ErrArg)
	takes(t, b, inf, 1, api.OK)

	b = made(t, inf, 5)
	takes(t, b, 0, 5, api.OK)
	takes(t, b, 1, 5, api.OK)
	takes(t, b, 1, 1, api.ErrRate)

	b = made(t, 0, 5)
	takes(t, b, 0, 5, api.OK)
	takes(t, b, 1e300, 1, api.ErrRate)
	waits(t, b, 1e300, 1, inf)
	waits(t, b, 0, 0, 0)

	b = made(t, 4, 8)
	takes(t, b, 0, 8, api.OK)
	waits(t, b, 0, 2, 0.5)
	waits(t, b, 0, 9, nan)
}

// Example 1: time that goes back gives nothing, and takes nothing.
func TestExamplesTimeGoesBack(t *testing.T) {
	b := made(t, 1, 10)
	takes(t, b, 5, 8, api.OK)
	for _, now := range []float64{4, 0, minus, -7, -huge, 5} {
		levels(t, b, now, 2)
		takes(t, b, now, 0, api.OK)
		takes(t, b, now, 3, api.ErrRate)
	}
	levels(t, b, 6, 3) // counted from 5, not from where time went back to
	takes(t, b, -7, 2, api.OK)
	levels(t, b, 6, 1)
}

// Example 2: a cost of 0 is always OK, if its time is none of those that are refused.
func TestExamplesCostOfNothing(t *testing.T) {
	for _, rate := range []float64{0, minus, least, 1, huge, inf} {
		for _, burst := range []float64{0, minus, least, 3, huge} {
			b := made(t, rate, burst)
			for _, now := range []float64{-huge, -1, minus, 0, 1, 0.5, huge, inf, -huge} {
				for _, cost := range []float64{0, minus} {
					takes(t, b, now, cost, api.OK)
					waits(t, b, now, cost, 0)
				}
				b.Take(now, burst)
			}
			for _, now := range []float64{nan, -inf} {
				takes(t, b, now, 0, api.ErrArg)
				waits(t, b, now, 0, nan)
			}
		}
	}
}

func TestP131New(t *testing.T) {
	for _, f := range []float64{nan, -least, -1, -huge, -inf} {
		refuses(t, f, 1)
		refuses(t, 1, f)
		refuses(t, f, f)
	}
	for _, rate := range []float64{0, minus, 1, inf, nan, -1} {
		refuses(t, rate, inf)
	}
	for _, rate := range []float64{0, minus, least, 1, huge, inf} {
		for _, burst := range []float64{0, minus, least, 0.1, 1, huge} {
			b := made(t, rate, burst)
			for _, now := range []float64{nan, -inf, -1, minus, 0, 1, huge, inf} {
				levels(t, b, now, math.Abs(burst))
			}
		}
	}
}

func TestP132LevelIsWhatItWas(t *testing.T) {
	b := made(t, 2, 10)
	takes(t, b, -3, 9, api.OK) // -Inf is no time that was looked at, -3 is one
	for _, now := range []float64{nan, -inf, -huge, -4, -3} {
		levels(t, b, now, 1)
	}
	levels(t, b, -3+4.440892098500626e-16, 1+2*4.440892098500626e-16)
	levels(t, b, minus, 7)
	levels(t, b, 0, 7)

	takes(t, b, inf, 4, api.OK)
	for _, now := range []float64{nan, -inf, 0, huge, inf} { // nothing is after +Inf
		levels(t, b, now, 6)
	}
}

func TestP132LevelIsBurst(t *testing.T) {
	for _, rate := range []float64{least, 1, huge, inf} {
		b := made(t, rate, 10)
		takes(t, b, 1, 10, api.OK)
		levels(t, b, inf, 10)
		levels(t, b, 1, 0)
	}
	b := made(t, inf, 10)
	takes(t, b, 1, 10, api.OK)
	levels(t, b, beyond, 10)
	levels(t, b, 1, 0)
	takes(t, b, inf, 10, api.OK)
	levels(t, b, inf, 0)
}

func TestP132LevelWithoutRate(t *testing.T) {
	for _, rate := range []float64{0, minus} {
		b := made(t, rate, 10)
		takes(t, b, -huge, 4, api.OK)
		for _, now := range []float64{-1, 0, 1, huge, inf} { // +Inf times 0 would be NaN
			levels(t, b, now, 6)
		}
	}
}

func TestP132LevelRises(t *testing.T) {
	b := made(t, 0.1, 1)
	takes(t, b, 0, 1, api.OK)
	levels(t, b, 3, 0.30000000000000004)
	levels(t, b, 9.5, 0.9500000000000001)
	for _, now := range []float64{10, 11, huge} {
		levels(t, b, now, 1)
	}

	b = made(t, 1e300, huge) // the time between is too great for a float, and so is what it gives
	takes(t, b, -huge, huge, api.OK)
	levels(t, b, huge, huge)

	b = made(t, least, 1) // what a short time gives is rounded to nothing
	takes(t, b, 0, 1, api.OK)
	levels(t, b, 0.5, 0)
	levels(t, b, 0.75, least)
	levels(t, b, 1, least)
}

// The product is rounded ahead of the sum: of these, in one rounding there would come another level.
func TestP132LevelRoundsTwice(t *testing.T) {
	telling := 0
	random := rand.New(rand.NewSource(1302))
	for range 2000 {
		rate, level, now := random.Float64(), random.Float64(), random.Float64()
		b := made(t, rate, 4)
		b.Take(0, 4-level)
		level = b.Level(0)
		product := now * rate
		want := level + product
		if want != math.FMA(now, rate, level) {
			telling++
		}
		levels(t, b, now, want)
	}
	if telling < 100 {
		t.Errorf("only %d would have told", telling)
	}
}

func TestP133TakeRefuses(t *testing.T) {
	for _, rate := range []float64{0, 2, inf} {
		b := made(t, rate, 10)
		takes(t, b, 1, 4, api.OK)
		for _, now := range []float64{0, 1, 2, inf} {
			for _, cost := range []float64{nan, -least, -1, -inf} {
				takes(t, b, now, cost, api.ErrArg)
			}
			for _, cost := range []float64{10.000000000000002, 11, huge, inf} {
				takes(t, b, now, cost, api.ErrRange)
			}
		}
		for _, now := range []float64{nan, -inf} { // ErrArg stands ahead of ErrRange
			for _, cost := range []float64{0, 1, 10, 11, inf, nan, -1} {
				takes(t, b, now, cost, api.ErrArg)
			}
		}
		levels(t, b, 1, 6) // had a refused call's time been kept, it were more
	}
}

// A bucket that was never looked at is not filled by its first time, and begins to be filled there.
func TestP133TakeFirst(t *testing.T) {
	for _, now := range []float64{-huge, -5, minus, 0, 5, 1e15} {
		b := made(t, 2, 10)
		takes(t, b, nan, 1, api.ErrArg)
		takes(t, b, -inf, 1, api.ErrArg)
		takes(t, b, now, 11, api.ErrRange)
		levels(t, b, huge, 10)
		takes(t, b, now, 10, api.OK)
		levels(t, b, now, 0)
		if now != -huge {
			levels(t, b, now+1, 2)
		}
	}
}

func TestP133TakeAtTheEdge(t *testing.T) {
	b := made(t, 2, 10)
	takes(t, b, 0, 10, api.OK)
	takes(t, b, 1, 2.0000000000000004, api.ErrRate)
	takes(t, b, 1, 2, api.OK)
	levels(t, b, 1, 0)
	takes(t, b, 1, least, api.ErrRate)
	takes(t, b, 7, 10.000000000000002, api.ErrRange)
	takes(t, b, 7, 10, api.OK)

	b = made(t, 1, minus)
	takes(t, b, 0, least, api.ErrRange)
	takes(t, b, 0, minus, api.OK)
	levels(t, b, 1, 0)
}

// A Take that gets nothing has looked at the bucket: the level and the time stand as of then.
func TestP133TakeGetsNothing(t *testing.T) {
	b := made(t, 2, 10)
	takes(t, b, 0, 10, api.OK)
	takes(t, b, 3, 7, api.ErrRate)
	levels(t, b, 1, 6)
	takes(t, b, 1, 7, api.ErrRate)
	takes(t, b, 0, 6, api.OK)
	levels(t, b, 4, 2)

	b = made(t, 0.1, 1) // two halves of a time, each rounded, are more than the whole
	takes(t, b, 0, 1, api.OK)
	takes(t, b, 3, 1, api.ErrRate)
	takes(t, b, 6, 1, api.ErrRate)
	first := 3 * b.rate
	levels(t, b, 9, first+first+first)

	b = made(t, 2, 10)
	takes(t, b, 0, 10, api.OK)
	takes(t, b, inf, 10, api.OK)
	takes(t, b, inf, 1, api.ErrRate)
	takes(t, b, huge, 1, api.ErrRate)
}

func TestP134Wait(t *testing.T) {
	b := made(t, 4, 8)
	takes(t, b, 0, 8, api.OK)
	for _, now := range []float64{nan, -inf} {
		for _, cost := range []float64{0, 1, 8, 9, nan, -1} {
			waits(t, b, now, cost, nan)
		}
	}
	for _, now := range []float64{-1, 0, 1, huge, inf} {
		for _, cost := range []float64{nan, -least, -1, -inf, 8.000000000000002, inf} {
			waits(t, b, now, cost, nan)
		}
		waits(t, b, now, 0, 0)
		waits(t, b, now, minus, 0)
	}
	waits(t, b, -5, 6, 1.5)
	waits(t, b, 0, 8, 2)
	waits(t, b, 1, 4, 0)
	waits(t, b, 1, 4.000000000000001, 8.881784197001252e-16/4)
	waits(t, b, 1, 8, 1)
	waits(t, b, 2, 8, 0)
	waits(t, b, inf, 8, 0)

	b = made(t, 3, 8) // a quotient, not a product with a third
	takes(t, b, 0, 8, api.OK)
	waits(t, b, 0, 5, 1.6666666666666667)
	waits(t, b, 0, 7, 2.3333333333333335)
}

func TestP134WaitAtTheRatesEdges(t *testing.T) {
	for _, rate := range []float64{0, minus} {
		b := made(t, rate, 5)
		takes(t, b, 0, 3, api.OK)
		for _, now := range []float64{-1, 0, 1e300, inf} {
			waits(t, b, now, 2, 0)
			waits(t, b, now, 2.0000000000000004, inf)
			waits(t, b, now, 6, nan)
		}
	}
	b := made(t, inf, 5)
	takes(t, b, 0, 5, api.OK)
	for _, now := range []float64{-1, 0, 1, inf} {
		waits(t, b, now, 5, 0)
		waits(t, b, now, 6, nan)
	}
	b = made(t, least, 1)
	takes(t, b, 0, 1, api.OK)
	waits(t, b, 0, 1, inf)
	waits(t, b, 0, least, 1)
	waits(t, b, inf, 1, 0)
	b = made(t, huge, 1)
	takes(t, b, 0, 1, api.OK)
	waits(t, b, 0, 1, 5.562684646268003e-309)
	waits(t, b, 0, least, 0)
}

// plain is a bucket by the chapter's words, clause by clause, with each operation worked out in fractions and rounded once.
type plain struct{ rate, burst, level, last float64 }

func fraction(f float64) *big.Rat { return new(big.Rat).SetFloat64(f) }

func rounded(r *big.Rat) float64 {
	f, _ := r.Float64()
	return f
}

func finite(f float64) bool { return !math.IsNaN(f) && !math.IsInf(f, 0) }

func (p *plain) risen(now float64) float64 {
	between := rounded(new(big.Rat).Sub(fraction(now), fraction(p.last)))
	if !finite(between) {
		return p.burst
	}
	gain := rounded(new(big.Rat).Mul(fraction(between), fraction(p.rate)))
	if !finite(gain) {
		return p.burst
	}
	sum := new(big.Rat).Add(fraction(p.level), fraction(gain))
	if f := rounded(sum); f < p.burst {
		return f
	}
	return p.burst
}

func (p *plain) Level(now float64) float64 {
	if now != now {
		return p.level
	}
	if p.last == -inf {
		return p.level
	}
	if now <= p.last {
		return p.level
	}
	if p.rate == inf {
		return p.burst
	}
	if now == inf && p.rate != 0 {
		return p.burst
	}
	if p.rate == 0 {
		return p.level
	}
	return p.risen(now)
}

func (p *plain) refused(now, cost float64) api.Errno {
	if now != now || cost != cost || now == -inf || cost < 0 {
		return api.ErrArg
	}
	if cost > p.burst {
		return api.ErrRange
	}
	return api.OK
}

func (p *plain) Take(now, cost float64) api.Errno {
	if e := p.refused(now, cost); e != api.OK {
		return e
	}
	p.level = p.Level(now)
	if now > p.last {
		p.last = now
	}
	if cost > p.level {
		return api.ErrRate
	}
	p.level = rounded(new(big.Rat).Sub(fraction(p.level), fraction(cost)))
	return api.OK
}

func (p *plain) Wait(now, cost float64) float64 {
	if p.refused(now, cost) != api.OK {
		return nan
	}
	v := p.Level(now)
	if !(cost > v) {
		return 0
	}
	if p.rate == 0 {
		return inf
	}
	if p.rate == inf {
		return 0
	}
	lack := rounded(new(big.Rat).Sub(fraction(cost), fraction(v)))
	return rounded(new(big.Rat).Quo(fraction(lack), fraction(p.rate)))
}

// drawn is an amount or a time: mostly near the bucket's own, at times at an edge.
func drawn(random *rand.Rand, near float64) float64 {
	edges := []float64{nan, inf, -inf, minus, 0, least, -least, huge, -huge, -1}
	switch random.Intn(8) {
	case 0:
		return edges[random.Intn(len(edges))]
	case 1:
		return near
	case 2:
		return math.Nextafter(near, inf)
	case 3:
		return float64(random.Intn(6))
	case 4:
		return math.Ldexp(random.Float64(), random.Intn(2000)-1000)
	}
	if !finite(near) || near == 0 {
		near = 1
	}
	return near * 1.5 * random.Float64()
}

// walk goes a random way with a bucket and with a plain one, and counts what came.
func walk(t *testing.T, random *rand.Rand, came map[string]int) {
	rate, burst := drawn(random, 2), drawn(random, 10)
	b, e := New(rate, burst)
	wrong := rate != rate || burst != burst || rate < 0 || burst < 0 || burst == inf
	if wrong {
		came["no bucket"]++
		if b != nil || e != api.ErrArg {
			t.Errorf("New(%v, %v): %v", rate, burst, e)
		}
		return
	}
	if b == nil || e != api.OK {
		t.Errorf("New(%v, %v): %v", rate, burst, e)
		return
	}
	p := &plain{math.Abs(rate), math.Abs(burst), math.Abs(burst), -inf}
	now := 0.0
	for range 40 {
		at := drawn(random, now+random.Float64())
		if at < 1e6 && at > now || random.Intn(50) == 0 {
			now = at
		}
		cost := drawn(random, b.Level(at))
		held(t, b, p, at, cost, came)
	}
}

// held makes the same calls of both, and asks for the same answers.
func held(t *testing.T, b *Bucket, p *plain, at, cost float64, came map[string]int) {
	t.Helper()
	level, wait := b.Level(at), b.Wait(at, cost)
	if want := p.Level(at); !same(level, want) {
		t.Fatalf("%+v: Level(%v): %v, not %v", *p, at, level, want)
	}
	if want := p.Wait(at, cost); !same(wait, want) {
		t.Fatalf("%+v: Wait(%v, %v): %v, not %v", *p, at, cost, wait, want)
	}
	was := *p
	got, want := b.Take(at, cost), p.Take(at, cost)
	if got != want {
		t.Fatalf("%+v: Take(%v, %v): %v, not %v", was, at, cost, got, want)
	}
	switch {
	case got == api.ErrArg:
		came["arg"]++
	case got == api.ErrRange:
		came["range"]++
	case got == api.ErrRate && wait == inf:
		came["never"]++
	case got == api.ErrRate && wait == 0:
		came["at once"]++
	case got == api.ErrRate:
		came["rate"]++
	case at < was.last:
		came["back"]++
	case was.level < level && level < was.burst:
		came["risen"]++
	case was.level < level:
		came["full again"]++
	default:
		came["taken"]++
	}
	if v := b.Level(nan); !(v >= 0) || v > was.burst || math.Signbit(v) {
		t.Fatalf("%+v: behind Take(%v, %v) a level of %v", was, at, cost, v)
	}
}

func TestP135WalksBesideAPlainBucket(t *testing.T) {
	random := rand.New(rand.NewSource(13))
	came := map[string]int{}
	for range 3000 {
		walk(t, random, came)
	}
	for _, what := range []string{"no bucket", "arg", "range", "never", "at once", "rate", "back", "risen", "full again", "taken"} {
		if came[what] < 100 {
			t.Errorf("%s came only %d times", what, came[what])
		}
	}
}

// let is what was let through at a time.
type let struct{ at, cost float64 }

// Of whole numbers no more is let through than burst and what the time gives, between any two times.
func TestP135NoMoreIsLetThrough(t *testing.T) {
	random := rand.New(rand.NewSource(135))
	full := 0
	for range 200 {
		rate, burst := float64(random.Intn(5)), float64(random.Intn(20))
		b := made(t, rate, burst)
		var lets []let
		now, seen := float64(random.Intn(100)-50), -inf
		for range 60 {
			now += float64(random.Intn(3))
			at := now - float64(random.Intn(2)*random.Intn(10))
			cost := float64(random.Intn(8))
			e := b.Take(at, cost)
			if e != api.ErrRange { // what is let through when time went back counts for the latest time
				seen = max(seen, at)
			}
			if e == api.OK {
				lets = append(lets, let{seen, cost})
			}
		}
		full += mostLet(t, lets, rate, burst)
	}
	if full < 100 {
		t.Errorf("only %d times as much was let through as may be", full)
	}
}

// mostLet counts the times in which all was let through that might be.
func mostLet(t *testing.T, lets []let, rate, burst float64) (full int) {
	for i := range lets {
		sum := 0.0
		for _, last := range lets[i:] {
			sum += last.cost
			most := burst + (last.at-lets[i].at)*rate
			if sum > most {
				t.Fatalf("rate %v, burst %v: %v was let through from %v to %v", rate, burst, sum, lets[i].at, last.at)
			}
			if sum == most && last.at > lets[i].at && rate > 0 {
				full++
			}
		}
	}
	return full
}

// What Wait says is when a Take is let through, and not ahead of it: in whole numbers, and times that are parts of two.
func TestP135WaitedForIsLetThrough(t *testing.T) {
	for _, rate := range []float64{0.25, 1, 2, 8} {
		for cost := 1.0; cost <= 16; cost++ {
			b := made(t, rate, 16)
			takes(t, b, 0, 16, api.OK)
			wait := b.Wait(0, cost)
			takes(t, b, wait-1.0/64, cost, api.ErrRate)
			takes(t, b, wait, cost, api.OK)
		}
	}
}

// A bucket that is asked for its level and for waits goes on as one that is not.
func TestP132P134ChangeNothing(t *testing.T) {
	random := rand.New(rand.NewSource(1324))
	for range 300 {
		rate, burst := 3*random.Float64(), 10*random.Float64()
		asked, silent := made(t, rate, burst), made(t, rate, burst)
		for range 30 {
			at, cost := drawn(random, 5), drawn(random, burst/2)
			for range 3 {
				asked.Level(drawn(random, 5))
				asked.Wait(drawn(random, 5), drawn(random, burst))
			}
			if *asked != *silent {
				t.Fatalf("%+v, not %+v", *asked, *silent)
			}
			if x, y := asked.Take(at, cost), silent.Take(at, cost); x != y {
				t.Fatalf("Take(%v, %v): %v, not %v", at, cost, x, y)
			}
		}
	}
}

// With ErrArg and ErrRange nothing has changed.
func TestR3RefusedChangesNothing(t *testing.T) {
	b := made(t, 2, 10)
	for _, first := range []bool{true, false} {
		was := *b
		for _, x := range []let{{nan, 1}, {-inf, 1}, {5, nan}, {5, -1}, {5, 11}, {5, inf}, {inf, 11}} {
			if e := b.Take(x.at, x.cost); e == api.OK || e == api.ErrRate {
				t.Errorf("Take(%v, %v): %v", x.at, x.cost, e)
			}
			if *b != was {
				t.Errorf("Take(%v, %v): %+v, not %+v", x.at, x.cost, *b, was)
			}
		}
		if first {
			takes(t, b, 0, 7, api.OK)
		}
	}
}

func TestR4BucketsAreApart(t *testing.T) {
	b, other := made(t, 2, 10), made(t, 2, 10)
	takes(t, b, 0, 10, api.OK)
	takes(t, b, 1, 5, api.ErrRate)
	levels(t, other, 0, 10)
	takes(t, other, -9, 10, api.OK)
	levels(t, b, 1, 2)
	levels(t, other, -8, 2)
	takes(t, other, -8, 2, api.OK)
}
