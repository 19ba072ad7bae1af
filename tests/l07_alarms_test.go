package tests

import (
	"fmt"
	"testing"

	"loop.example/g01382/impl"
)

func TestAlarmsAt(t *testing.T) {
	for _, c := range []struct {
		values []float32
		bar    float32
		delay  int64
		wanted string
	}{
		{[]float32{1, 5, 5}, 4, 1, "2 true"},
		{[]float32{1, 5, 5}, 4, 0, "1 true"},
		{[]float32{1, 5, 5}, 0, 1, "1 true"},
		{[]float32{1, 5, 5}, 0, 2, "2 true"},
		{[]float32{1, 5, 5}, 1, 2, "-1 true"},
		{[]float32{1, 5, 5}, 0, 0, "0 true"},
		{[]float32{1}, 0, 0, "0 true"},
		{[]float32{1, 2, 3, 4}, 0, 3, "3 true"},
		{[]float32{5, 5, 1, 5, 5, 5}, 4, 1, "1 true"},
		{[]float32{5, 5, 1, 5, 5, 5}, 4, 2, "5 true"},
		{[]float32{5, 1, 5, 1, 5, 5}, 4, 1, "5 true"},
		{[]float32{-5, -4, -3, -2, -1}, -4, 1, "3 true"},
		// Alarms that do not come, and numbers that are the bar.
		{[]float32{1}, 4, 0, "-1 true"},
		{[]float32{5, 5, 1, 5, 5}, 4, 2, "-1 true"},
		{[]float32{5, 5, 5, 5, 1}, 4, 4, "-1 true"},
		{[]float32{4}, 4, 0, "-1 true"},
		{[]float32{4, 4, numberOf(0x40800001)}, 4, 0, "2 true"},
		{[]float32{5, 4, 5, 5}, 4, 1, "3 true"},
		{[]float32{0, minusZero}, minusZero, 0, "-1 true"},
		{[]float32{0, minusZero}, 0, 0, "-1 true"},
		{[]float32{minusZero, leastNumber}, minusZero, 0, "1 true"},
		{[]float32{great}, great, 0, "-1 true"},
		{[]float32{-great, great}, -great, 0, "1 true"},
		{[]float32{great, great}, numberOf(0x7f7ffffe), 1, "1 true"},
		{toN(impl.MaxSignal, 1), 0, 95, "95 true"},
		{toN(impl.MaxSignal, 1), 1, 95, "-1 true"},
		{toN(impl.MaxSignal, 1), 1, 94, "95 true"},
		{toN(impl.MaxSignal, 1), 95, 0, "95 true"},
		{toN(impl.MaxSignal, 1), 96, 0, "-1 true"},
		// Delays that there are not.
		{[]float32{5}, 4, 1, "0 false"},
		{[]float32{5}, 4, -1, "0 false"},
		{[]float32{5, 5}, 4, 2, "0 false"},
		{[]float32{5, 5}, 4, 3, "0 false"},
		{toN(impl.MaxSignal, 1), 0, 96, "0 false"},
	} {
		at, ok := impl.AlarmAt(c.values, c.bar, c.delay)
		want(t, fmt.Sprint("AlarmAt ", c), show(at, ok), c.wanted)
	}
	for _, x := range notFiniteOnes {
		at, ok := impl.AlarmAt([]float32{5, 5}, x, 0)
		wantFails(t, fmt.Sprint("AlarmAt with ", x), ok, at)
	}
	for _, n := range extremes {
		at, ok := impl.AlarmAt([]float32{5, 5}, 4, n)
		wantFails(t, fmt.Sprint("AlarmAt with ", n), ok, at)
	}
}

// alarmsIn counts each number that is above, and returns where enough of them come one behind the other.
func alarmsIn(values []float32, bar float32, delay int) []int {
	run, alarms := 0, []int{}
	for i, x := range values {
		run++
		if x <= bar {
			run = 0
		}
		if run > delay {
			alarms = append(alarms, i)
		}
	}
	return alarms
}

func TestAlarmsComeFirstWhereEnoughAreAbove(t *testing.T) {
	s := &sweep{seed: 3}
	for range 3000 {
		values := make([]float32, s.below(impl.MaxSignal)+1)
		for i := range values {
			values[i] = s.four()
		}
		bars := []float32{s.four(), s.four() + 0.5, -5, 5}
		delay := int(s.below(uint32(min(len(values), 5))))
		counts, ok := impl.AlarmCounts(values, bars, int64(delay), int64(s.below(8))+1)
		if !ok || len(counts) != len(bars) {
			t.Fatalf("AlarmCounts of %v fails", values)
		}
		for i, bar := range bars {
			alarms, first := alarmsIn(values, bar, delay), int64(-1)
			if len(alarms) > 0 {
				first = int64(alarms[0])
			}
			at, ok := impl.AlarmAt(values, bar, int64(delay))
			want(t, fmt.Sprint("AlarmAt ", values, bar, delay), show(at, ok), show(first, true))
			want(t, fmt.Sprint("AlarmCounts ", values, bar, delay), show(counts[i]), show(int64(len(alarms))))
		}
	}
}

func TestAlarmStates(t *testing.T) {
	for _, c := range []struct {
		values  []float32
		on, off float32
		wanted  string
	}{
		{[]float32{1, 5, 3, 1}, 4, 2, "[false true true false] true"},
		{[]float32{1, 3, 5, 3, 1, 3, 5}, 4, 2, "[false false true true false false true] true"},
		{[]float32{5}, 4, 2, "[true] true"},
		{[]float32{3}, 4, 2, "[false] true"},
		{[]float32{1}, 4, 2, "[false] true"},
		// Numbers that are on or off, and both the same.
		{[]float32{4, 5, 2, 4, 1, 4, 5}, 4, 2, "[false true true true false false true] true"},
		{[]float32{4, 5, 4, 5, 3, 4}, 4, 4, "[false true true true false false] true"},
		{[]float32{numberOf(0x40800001), 4, numberOf(0x407fffff), 4}, 4, 4, "[true true false false] true"},
		{[]float32{0, leastNumber, minusZero, -leastNumber, 0}, 0, minusZero, "[false true true false false] true"},
		{[]float32{0, leastNumber, minusZero, -leastNumber, 0}, minusZero, 0, "[false true true false false] true"},
		{[]float32{0, 0, 0}, 0, 0, "[false false false] true"},
		{[]float32{0, 0, 0}, -1, -2, "[true true true] true"},
		{[]float32{great, -great, great}, 0, -great, "[true true true] true"},
		{[]float32{great, -great, great}, 0, numberOf(0xff7ffffe), "[true false true] true"},
		{[]float32{great, great}, great, -great, "[false false] true"},
		{[]float32{great, 0}, numberOf(0x7f7ffffe), -1, "[true true] true"},
		{toN(12, 1), 5, 3, "[false false false false false true true true true true true true] true"},
		{toN(12, -1), -8, -10, "[true true true true true true true true true true false false] true"},
		{[]float32{1}, 1, 2, "[] false"},
		{[]float32{1}, 2, numberOf(0x40000001), "[] false"},
		{[]float32{1}, -great, great, "[] false"},
	} {
		states, ok := impl.AlarmStates(c.values, c.on, c.off)
		want(t, fmt.Sprint("AlarmStates ", c), show(states, ok), c.wanted)
	}
	for _, x := range notFiniteOnes {
		one, a := impl.AlarmStates([]float32{1, 5}, x, -great)
		two, b := impl.AlarmStates([]float32{1, 5}, great, x)
		three, c := impl.AlarmStates([]float32{1, 5}, x, x)
		wantFails(t, fmt.Sprint("AlarmStates with ", x), a || b || c, one, two, three)
	}
	if states, ok := impl.AlarmStates(toN(impl.MaxSignal, 1), 50, 20); !ok || len(states) != impl.MaxSignal || states[49] || !states[50] || !states[95] {
		t.Errorf("the longest alarm is %v, %v", states, ok)
	}
}

func TestAlarmCounts(t *testing.T) {
	for _, c := range []struct {
		values, bars []float32
		delay        int64
		wanted       string
	}{
		{[]float32{1, 5, 5}, []float32{4, 0, 9}, 1, "[1 2 0] true"},
		{[]float32{1, 5, 5}, []float32{4, 0, 9}, 0, "[2 3 0] true"},
		{[]float32{1, 5, 5}, []float32{4, 0, 9}, 2, "[0 1 0] true"},
		{[]float32{1, 5, 5}, []float32{5}, 0, "[0] true"},
		{[]float32{1}, []float32{0, 1, minusZero}, 0, "[1 0 1] true"},
		{[]float32{5, 5, 1, 5, 5, 5}, []float32{4, 4, 1, 0}, 1, "[3 3 3 5] true"},
		{toN(impl.MaxSignal, 1), []float32{0, 1, 2, 3, 94, 95, 96, -1, 50, 51, 52, 53}, 1, "[95 94 93 92 1 0 0 95 45 44 43 42] true"},
		{toN(impl.MaxSignal, 1), []float32{0, 1, 2}, 95, "[1 0 0] true"},
		{[]float32{1, 5, 5}, toN(impl.MaxBands, 0.5), 1, "[2 1 1 1 1 1 1 1 1 0 0 0] true"},
		{[]float32{1, 5, 5}, toN(13, 0.5), 1, "[] false"},
		{[]float32{1, 5, 5}, []float32{}, 1, "[] false"},
		{[]float32{1, 5, 5}, []float32{4}, 3, "[] false"},
		{[]float32{1, 5, 5}, []float32{4}, -1, "[] false"},
		{toN(impl.MaxSignal, 1), []float32{0}, 96, "[] false"},
	} {
		for workers := int64(1); workers <= impl.MaxWorkers; workers++ {
			counts, ok := impl.AlarmCounts(c.values, c.bars, c.delay, workers)
			want(t, fmt.Sprint("AlarmCounts ", c, workers), show(counts, ok), c.wanted)
		}
	}
	values := []float32{1, 5, 5}
	for _, workers := range append([]int64{0, impl.MaxWorkers + 1, 1<<32 + 1}, extremes...) {
		counts, ok := impl.AlarmCounts(values, []float32{4, 0}, 1, workers)
		wantFails(t, fmt.Sprint(workers, " workers"), ok, counts)
	}
	for _, x := range notFiniteOnes {
		for _, bars := range [][]float32{{x}, {x, 4}, {4, 0, x}} {
			counts, ok := impl.AlarmCounts(values, bars, 1, 2)
			wantFails(t, fmt.Sprint("AlarmCounts with ", bars), ok, counts)
		}
	}
	for _, n := range extremes {
		counts, ok := impl.AlarmCounts(values, []float32{4}, n, 2)
		wantFails(t, fmt.Sprint("AlarmCounts with ", n), ok, counts)
	}
}

func TestAlarmsRequireSignals(t *testing.T) {
	for _, a := range noSignals() {
		at, one := impl.AlarmAt(a, 0, 0)
		states, two := impl.AlarmStates(a, 0, 0)
		counts, three := impl.AlarmCounts(a, []float32{0}, 0, 1)
		wantFails(t, showList(a), one || two || three, at, states, counts)
	}
}
