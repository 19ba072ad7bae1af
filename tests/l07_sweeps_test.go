package tests

import (
	"testing"

	"loop.example/g01382/impl"
)

// long returns how many numbers a signal has: few, or now and then about as many as there may be.
func (s *sweep) long() uint32 {
	if s.below(24) == 0 {
		return s.below(4) + 94
	}
	return s.below(14)
}

func (s *sweep) signal() []float32 {
	n := s.long()
	if s.below(3) == 0 {
		return s.list(n, s.four)
	}
	return s.list(n, s.level)
}

// lines returns lines, and a length that has so many of them most of the times.
func (s *sweep) lines() ([]complex64, int64) {
	long := s.long()
	n := s.other(long/2 + 1)
	re, im := s.list(n, s.level), s.list(n, s.level)
	lines := make([]complex64, n)
	for k := range lines {
		lines[k] = complex(re[k], im[k])
	}
	return lines, int64(long)
}

// cuts returns cuts for a signal of n numbers most of the times.
func (s *sweep) cuts(n int) []int64 {
	lines := uint32(n/2 + 1)
	var list []int64
	for at := s.below(3); at <= lines; at += s.below(lines/2+1) + 1 {
		list = append(list, int64(at))
	}
	switch s.below(16) {
	case 0:
		list = append(list, int64(lines)+1)
	case 1:
		list = append(list, int64(s.below(lines+1)))
	case 2:
		list = append([]int64{-1}, list...)
	}
	return list
}

// ends returns two integers from 0 to n, the lesser one first most of the times.
func (s *sweep) ends(n int) (int64, int64) {
	from, to := int64(s.below(uint32(n)+1)), int64(s.below(uint32(n)+1))
	if from > to && s.below(8) > 0 {
		from, to = to, from
	}
	return from, to
}

// places returns quarters between the first and the last place of a signal of n numbers, now and then one behind it.
func (s *sweep) places(n int) []float32 {
	last := max(n-1, 0)
	list := s.list(s.long(), func() float32 { return float32(s.below(uint32(4*last)+1)) / 4 })
	if s.below(16) == 0 {
		list = append(list, float32(last)+float32(s.below(3))/4)
	}
	return list
}

// rates returns rates that often lie just between two lines of a signal of n numbers.
func (s *sweep) ratesOf(n int) []float32 {
	parts := uint32(2 * max(n, 1))
	if s.below(2) == 0 {
		parts = 1 << 12
	}
	many := s.below(6)
	if s.below(16) == 0 {
		many = s.below(4) + 10
	}
	return s.list(many, func() float32 { return float32(s.below(parts/2+1)) / float32(parts) })
}

func (s *sweep) delay(n int) int64 {
	if s.below(8) == 0 {
		return int64(n) - 2 + int64(s.below(3))
	}
	return int64(s.below(3))
}

// levels returns two numbers, the greater one first most of the times.
func (s *sweep) levels() (float32, float32) {
	on := s.center()
	off := s.center()
	if off > on && s.below(8) > 0 {
		on, off = off, on
	}
	return on, off
}

func (s *sweep) name() string {
	name := make([]byte, s.below(8)+1)
	for i := range name {
		name[i] = byte('a' + s.below(26))
	}
	switch s.below(24) {
	case 0:
		name = append(name, "abcdefgh"...)
	case 1:
		name[0] = byte(s.below(256))
	case 2:
		name = nil
	}
	return string(name)
}

func (s *sweep) saved() impl.Saved {
	name := s.name()
	system := s.system(6)
	return impl.Saved{Name: name, System: system, Signal: s.signal()}
}

// checked returns bytes with their check number.
func checked(bytes []byte) []byte {
	check, _ := impl.CheckOf(0, string(bytes))
	return append(bytes, byte(check%256), byte(check/256))
}

// spoilt returns bytes with one of them changed, with a check number that is right or not, or cut, or with one more behind them, or as they are.
func (s *sweep) spoilt(text string) string {
	bytes, k := []byte(text), s.below(6)
	if len(bytes) < 3 {
		return text
	}
	switch k {
	case 0:
		bytes[s.below(uint32(len(bytes)))] ^= byte(s.below(255) + 1)
	case 1, 2:
		bytes = bytes[:len(bytes)-2]
		bytes[s.below(uint32(min(len(bytes), 40)))] ^= byte(s.below(255) + 1)
		bytes = checked(bytes)
	case 3:
		bytes = bytes[:s.below(uint32(len(bytes)))]
	case 4:
		bytes = append(bytes, byte(s.below(256)))
	}
	return string(bytes)
}

func (s *sweep) putComplexesOf(list []complex64, ok bool) {
	s.putOK(ok)
	s.put(int64(len(list)))
	for _, x := range list {
		s.putComplex(x)
	}
}

func (s *sweep) putTextOf(text string, ok bool) {
	s.putOK(ok)
	s.put(int64(len(text)))
	for i := range len(text) {
		s.put(int64(text[i]))
	}
}

func (s *sweep) putSavedOf(a impl.Saved, ok bool) {
	s.putTextOf(a.Name, ok)
	s.putSystemOf(a.System, ok)
	s.putNumbersOf(a.Signal, ok)
}

func TestSignalsOverSweeps(t *testing.T) {
	wantSweep(t, "RootPower", 0x6df84ad79f740b0a, func(s *sweep) { s.putNumberOf(impl.RootPower(s.signal())) })
	wantSweep(t, "PeakRatio", 0x7c1f8c34994276bf, func(s *sweep) { s.putNumberOf(impl.PeakRatio(s.signal())) })
	wantSweep(t, "FourthRatio", 0x0d929f0c055de560, func(s *sweep) { s.putNumberOf(impl.FourthRatio(s.signal())) })
	wantSweepOf(t, "SignalLines", 1000, 0xf8ef6ab55fc4ba0c, func(s *sweep) { s.putComplexesOf(impl.SignalLines(s.signal())) })
	wantSweepOf(t, "SignalOfLines", 1000, 0xf3545679c9d36770, func(s *sweep) { s.putNumbersOf(impl.SignalOfLines(s.lines())) })
	wantSweepOf(t, "LineAt", 3000, 0x1082670596a24a41, func(s *sweep) {
		a := s.signal()
		line, ok := impl.LineAt(a, s.anyLevel()/64)
		s.putOK(ok)
		s.putComplex(line)
	})
	wantSweepOf(t, "BandPowers", 1000, 0xd9e1d41a41e3f2bd, func(s *sweep) {
		a := s.signal()
		s.putNumbersOf(impl.BandPowers(a, s.cuts(len(a))))
	})
	wantSweepOf(t, "BandPart", 1000, 0xc5554eed6790eac3, func(s *sweep) {
		a := s.signal()
		from, to := s.ends(len(a)/2 + 2)
		s.putNumbersOf(impl.BandPart(a, from, to))
	})
	wantSweepOf(t, "TurnedSignal", 1000, 0xf3bdc4b8170177d2, func(s *sweep) { s.putComplexesOf(impl.TurnedSignal(s.signal())) })
	wantSweepOf(t, "EnvelopeOf", 1000, 0x501e29c9d9943f6c, func(s *sweep) { s.putNumbersOf(impl.EnvelopeOf(s.signal())) })
	wantSweepOf(t, "CepstrumOf", 1000, 0x9e13540ae81a1c13, func(s *sweep) {
		a := s.signal()
		s.putNumbersOf(impl.CepstrumOf(a, s.part()))
	})
	wantSweepOf(t, "CepstrumPeak", 1000, 0xae9cf62ab613cc8b, func(s *sweep) {
		a := s.signal()
		from, to := s.ends(len(a))
		place, peak, ok := impl.CepstrumPeak(a, s.part(), from, to)
		s.putNumberOf(peak, ok)
		s.put(place)
	})
}

func TestTurnsOverSweeps(t *testing.T) {
	wantSweepOf(t, "TurnMean", 5000, 0xc824059306ab5980, func(s *sweep) {
		a := s.signal()
		s.putNumbersOf(impl.TurnMean(a, int64(s.below(uint32(len(a))+2))))
	})
	wantSweepOf(t, "TurnRest", 5000, 0x8cfc35d772e7f741, func(s *sweep) {
		a := s.signal()
		s.putNumbersOf(impl.TurnRest(a, int64(s.below(uint32(len(a))+2))))
	})
	wantSweepOf(t, "AtPlaces", 5000, 0xd543d2adaa27d097, func(s *sweep) {
		a := s.signal()
		s.putNumbersOf(impl.AtPlaces(a, s.places(len(a))))
	})
	wantSweepOf(t, "BearingRates", 5000, 0x68cacc87d4763000, func(s *sweep) {
		balls := s.edgeOf(32, int64(s.below(34)))
		ratio := s.anyShare()
		s.putNumbersOf(impl.BearingRates(balls, ratio, s.anyLevel()/64))
	})
	wantSweepOf(t, "RatePowers", 1000, 0x097b5ec8a52eadf3, func(s *sweep) {
		a := s.signal()
		rates := s.ratesOf(len(a))
		s.putNumbersOf(impl.RatePowers(a, rates, s.edgeOf(8, int64(s.below(4)))))
	})
}

func TestAlarmsOverSweeps(t *testing.T) {
	wantSweep(t, "AlarmAt", 0x5705119ed9bc6ea4, func(s *sweep) {
		values, bar := s.signal(), s.center()
		at, ok := impl.AlarmAt(values, bar, s.delay(len(values)))
		s.putOK(ok)
		s.put(at)
	})
	wantSweep(t, "AlarmStates", 0x81796e60fd4d22a4, func(s *sweep) {
		values := s.signal()
		on, off := s.levels()
		states, ok := impl.AlarmStates(values, on, off)
		s.putOK(ok)
		for _, isOn := range states {
			s.putOK(isOn)
		}
	})
	wantSweepOf(t, "AlarmCounts", 5000, 0xc7faee54f736ae61, func(s *sweep) {
		values, many := s.signal(), s.below(6)
		if s.below(16) == 0 {
			many = s.below(4) + 10
		}
		bars, delay := s.list(many, s.four), s.delay(len(values))
		s.putListOf(impl.AlarmCounts(values, bars, delay, int64(s.below(10))))
	})
}

func TestFilesOverSweeps(t *testing.T) {
	wantSweepOf(t, "ValidSaved", 5000, 0xd368d22dafb96751, func(s *sweep) { s.putOK(impl.ValidSaved(s.saved())) })
	wantSweepOf(t, "StoreSaved", 3000, 0x9d34341b9bffd3ce, func(s *sweep) { s.putTextOf(impl.StoreSaved(s.saved())) })
	wantSweepOf(t, "LoadSaved", 5000, 0x0a8d444e585ab59d, func(s *sweep) {
		text, _ := impl.StoreSaved(s.saved())
		s.putSavedOf(impl.LoadSaved(s.spoilt(text)))
	})
	wantSweepOf(t, "StoreAll", 500, 0x1c2f4019408a2ee2, func(s *sweep) {
		list := make([]impl.Saved, s.below(10))
		for i := range list {
			list[i] = s.saved()
		}
		s.putTextOf(impl.StoreAll(list))
	})
	wantSweepOf(t, "RecoverAll", 1000, 0xb389f421bde1d16a, func(s *sweep) {
		text := ""
		for range s.below(14) {
			one, _ := impl.StoreSaved(s.saved())
			if s.below(8) == 0 {
				one = s.spoilt(one)
			}
			text += one
		}
		list, n, ok := impl.RecoverAll(text)
		s.put(int64(len(list)))
		for _, one := range list {
			s.putSavedOf(one, ok)
		}
		s.put(n)
	})
}
