package apdu

import (
	"slices"
	"testing"

	"handbell/api"
)

func TestP61Examples(t *testing.T) {
	wantPack(t, api.Apdu{Kind: api.ApduAnswer, Result: 3, Config: 258}, []byte{0xe3, 0, 0, 4, 0, 3, 1, 2}, api.OK)
	wantPack(t, api.Apdu{Kind: api.ApduScan, Obs: []api.Obs{{Handle: 1, Bits: 0x16e}}},
		[]byte{0xe7, 0, 0, 0x0b, 0x0d, 0x1e, 0, 7, 0, 1, 0, 1, 2, 1, 0x6e}, api.OK)
	wantPack(t, api.Apdu{Kind: 7}, nil, api.ErrArg)
	wantPack(t, api.Apdu{Kind: api.ApduAbort, Config: 1}, nil, api.ErrArg)
	wantPack(t, api.Apdu{Kind: api.ApduScan, Obs: make([]api.Obs, 65)}, nil, api.ErrLimit)
	wantPack(t, api.Apdu{Kind: api.ApduAsk, System: make([]byte, 7)}, nil, api.ErrArg)
}

func TestP61EachKind(t *testing.T) {
	for _, w := range writtenOut() {
		wantPack(t, w.a, w.b, api.OK)
	}
}

func TestP61KindsThatAreNone(t *testing.T) {
	for kind := -66000; kind < 132000; kind++ {
		if slices.Contains(eight, kind) {
			continue
		}
		wantPack(t, api.Apdu{Kind: kind}, nil, api.ErrArg)
	}
	for _, kind := range eight {
		for _, k := range []int{-kind, ^kind, kind + 1<<16, kind + 1<<32, kind - 1<<16, kind + -1<<63} {
			wantPack(t, api.Apdu{Kind: k, System: make([]byte, 8)}, nil, api.ErrArg)
			wantPack(t, api.Apdu{Kind: k, Obs: make([]api.Obs, 65)}, nil, api.ErrArg)
		}
	}
}

func TestP61KindAheadOfLimits(t *testing.T) {
	for _, kind := range []int{0, 7, 0xE700} {
		wantPack(t, api.Apdu{Kind: kind, Objects: new(dice).objects(17)}, nil, api.ErrArg)
		wantPack(t, api.Apdu{Kind: kind, Obs: make([]api.Obs, 65)}, nil, api.ErrArg)
	}
}

func TestP61Limits(t *testing.T) {
	d := &dice{1}
	for _, n := range []int{0, 1, 15, 16} {
		a := api.Apdu{Kind: api.ApduConfig, Objects: d.objects(n)}
		wantPack(t, a, bytesOf(a), api.OK)
	}
	for _, n := range []int{17, 18, 256, 65535, 65536, 70000} {
		wantPack(t, api.Apdu{Kind: api.ApduConfig, Objects: make([]api.Object, n)}, nil, api.ErrLimit)
	}
	for _, n := range []int{0, 1, 63, 64} {
		a := api.Apdu{Kind: api.ApduScan, Obs: d.obs(n)}
		wantPack(t, a, bytesOf(a), api.OK)
	}
	for _, n := range []int{65, 66, 256, 65535, 65536, 70000} {
		wantPack(t, api.Apdu{Kind: api.ApduScan, Obs: make([]api.Obs, n)}, nil, api.ErrLimit)
	}
}

func TestP61LimitsAheadOfTheRest(t *testing.T) {
	for _, kind := range eight {
		// Whatever else is wrong, and though the kind may not have the list at all.
		for _, a := range []api.Apdu{
			{Objects: make([]api.Object, 17)},
			{Obs: make([]api.Obs, 65)},
			{Objects: make([]api.Object, 17), Config: -1},
			{Obs: make([]api.Obs, 65), Reason: 65536},
			{System: make([]byte, 9), Objects: make([]api.Object, 17)},
			{System: make([]byte, 70000), Obs: slices.Repeat([]api.Obs{{Bits: 65536}}, 65)},
			{Objects: make([]api.Object, 17), Obs: make([]api.Obs, 1)},
			{Objects: make([]api.Object, 1), Obs: make([]api.Obs, 65)},
		} {
			a.Kind = kind
			wantPack(t, a, nil, api.ErrLimit)
		}
	}
}

func TestP61ListsWithoutElements(t *testing.T) {
	for _, w := range writtenOut() {
		a := w.a
		if len(a.System) == 0 {
			a.System = []byte{}
		}
		if len(a.Objects) == 0 {
			a.Objects = make([]api.Object, 0, 3)
		}
		if len(a.Obs) == 0 {
			a.Obs = []api.Obs{}
		}
		wantPack(t, a, w.b, api.OK)
	}
}

func TestP61System(t *testing.T) {
	for _, n := range []int{0, 1, 7, 8, 9, 16, 255, 65535, 65536, 70000} {
		a := api.Apdu{Kind: api.ApduAsk, System: make([]byte, n), Config: 1}
		if n == 8 {
			wantPack(t, a, bytesOf(a), api.OK)
		} else {
			wantPack(t, a, nil, api.ErrArg)
		}
	}
	wantPack(t, api.Apdu{Kind: api.ApduAsk}, nil, api.ErrArg)
}

// bounds has each number of each kind set to one number, the rest being well.
func bounds(n int) []api.Apdu {
	eightBytes := []byte{8, 7, 6, 5, 4, 3, 2, 1}
	out := []api.Apdu{
		{Kind: api.ApduAsk, System: eightBytes, Config: n},
		{Kind: api.ApduAnswer, Result: n, Config: 1},
		{Kind: api.ApduAnswer, Result: 1, Config: n},
		{Kind: api.ApduConfig, Config: n},
		{Kind: api.ApduTaken, Config: n, Result: 1},
		{Kind: api.ApduTaken, Config: 1, Result: n},
		{Kind: api.ApduConfig, Objects: []api.Object{{Handle: n, Unit: 1}, {Handle: 2}}},
		{Kind: api.ApduConfig, Objects: []api.Object{{Handle: 1}, {Handle: 2, Unit: n, Long: true}}},
		{Kind: api.ApduScan, Obs: []api.Obs{{Handle: n, Bits: 1}, {Handle: 2, Long: true}}},
		{Kind: api.ApduScan, Obs: []api.Obs{{Handle: 1}, {Handle: n, Long: true, Bits: 1}}},
	}
	for _, kind := range []int{api.ApduRelease, api.ApduDone, api.ApduAbort} {
		out = append(out, api.Apdu{Kind: kind, Reason: n})
	}
	return out
}

func TestP61Numbers(t *testing.T) {
	for _, n := range []int{0, 255, 256, 65534, 65535} {
		for _, a := range bounds(n) {
			wantPack(t, a, bytesOf(a), api.OK)
		}
	}
	for _, n := range []int{-1, 65536, -65536, -65535, 1 << 31, 1 << 32, -1 << 63, 1<<63 - 1} {
		for _, a := range bounds(n) {
			wantPack(t, a, nil, api.ErrArg)
		}
	}
}

func TestP61Bits(t *testing.T) {
	for _, bits := range []uint32{0, 1, 255, 256, 65534, 65535, 65536, 65537, 1 << 24, 1<<31 - 1, 1 << 31, 1<<32 - 1} {
		for _, long := range []bool{false, true} {
			for place := range 3 {
				a := api.Apdu{Kind: api.ApduScan, Obs: make([]api.Obs, 3)}
				a.Obs[place] = api.Obs{Handle: 9, Long: long, Bits: bits}
				if long || bits < 65536 {
					wantPack(t, a, bytesOf(a), api.OK)
				} else {
					wantPack(t, a, nil, api.ErrArg)
				}
			}
		}
	}
}

func TestP61SameHandles(t *testing.T) {
	d := &dice{2}
	for i := range 16 {
		for j := range i {
			a := api.Apdu{Kind: api.ApduConfig, Objects: d.objects(16)}
			a.Objects[i].Handle = a.Objects[j].Handle
			wantPack(t, a, nil, api.ErrArg)
		}
	}
	a := api.Apdu{Kind: api.ApduScan, Obs: slices.Repeat([]api.Obs{{Handle: 5, Bits: 1}}, 64)}
	wantPack(t, a, bytesOf(a), api.OK)
}

func TestP61FieldsThatAKindHasNot(t *testing.T) {
	for _, w := range writtenOut() {
		for _, f := range []string{"System", "Config", "Result", "Reason", "Objects", "Obs"} {
			if slices.Contains(fieldsOf(w.a.Kind), f) {
				continue
			}
			for _, a := range with(w.a, f) {
				wantPack(t, a, nil, api.ErrArg)
			}
		}
	}
}

// with has a field of a message set, in several ways.
func with(a api.Apdu, field string) []api.Apdu {
	var out []api.Apdu
	switch field {
	case "System":
		for _, n := range []int{1, 8} {
			a.System = make([]byte, n)
			out = append(out, a)
		}
	case "Objects":
		for _, n := range []int{1, 16} {
			a.Objects = make([]api.Object, n)
			out = append(out, a)
		}
	case "Obs":
		for _, n := range []int{1, 64} {
			a.Obs = make([]api.Obs, n)
			out = append(out, a)
		}
	default:
		for _, n := range []int{1, -1, 65535, 65536} {
			*numberOf(&a, field) = n
			out = append(out, a)
		}
	}
	return out
}

func TestP61AgainstWords(t *testing.T) {
	d := &dice{3}
	seen := map[api.Errno]int{}
	for range 20000 {
		a := d.spoilt()
		b, e := modelPack(a)
		seen[e]++
		wantPack(t, a, b, e)
	}
	for _, e := range []api.Errno{api.OK, api.ErrArg, api.ErrLimit} {
		if seen[e] < 1000 {
			t.Errorf("error %d only %d times", e, seen[e])
		}
	}
}
