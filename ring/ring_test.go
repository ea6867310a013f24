package ring_test

import (
	"encoding/binary"
	"fmt"
	"math"
	"math/rand"
	"slices"
	"strings"
	"sync"
	"testing"

	"swinggate/api"
	"swinggate/ring"
	"swinggate/tag"
)

// Of a text that is sealed.
const (
	sealing  = 9
	mostText = api.MaxBytes - sealing
)

// ringOf epochs of these Nos, each with a key of its own.
func ringOf(nos ...int) []api.Epoch {
	var out []api.Epoch
	for _, no := range nos {
		out = append(out, api.Epoch{No: no, K: keyOf(no)})
	}
	return out
}

func keyOf(no int) api.Key { return api.Key{A: uint64(no) * 0x9e3779b97f4a7c15, B: ^uint64(no)} }

// sealedOf an epoch and a text, by the promise's words.
func sealedOf(e api.Epoch, s string) string {
	told := append([]byte{byte(e.No)}, s...)
	return string(binary.LittleEndian.AppendUint64(told, tag.Of(e.K, string(told))))
}

func full() []api.Epoch { return ringOf(1, 2, 3, 4, 5, 6, 7, 8) }

// wrongRings, each with what Check answers of it.
func wrongRings() map[api.Errno][][]api.Epoch {
	return map[api.Errno][][]api.Epoch{
		api.ErrMany: {
			ringOf(1, 2, 3, 4, 5, 6, 7, 8, 9),
			ringOf(0, 0, 0, 0, 0, 0, 0, 0, 0),
			ringOf(9, 8, 7, 6, 5, 4, 3, 2, 1),
			make([]api.Epoch, 1000),
		},
		api.ErrRange: {
			ringOf(0), ringOf(-1), ringOf(256), ringOf(math.MinInt), ringOf(math.MaxInt), ringOf(257),
			ringOf(1, 0), ringOf(1, 256), ringOf(255, 256), ringOf(5, -5), ringOf(1, 2, 3, 4, 5, 6, 7, 0),
			ringOf(0, 0), ringOf(256, 1, 1), ringOf(3, 7, 0, 7),
		},
		api.ErrState: {
			ringOf(1, 1), ringOf(2, 1), ringOf(255, 255), ringOf(255, 1), ringOf(3, 7, 7), ringOf(3, 7, 3), ringOf(3, 7, 6),
			ringOf(1, 2, 3, 4, 5, 6, 7, 7), ringOf(7, 3, 0), ringOf(7, 3, 256), ringOf(3, 3, -1),
		},
	}
}

// rightRings of many kinds.
func rightRings() [][]api.Epoch {
	return [][]api.Epoch{
		ringOf(1), ringOf(2), ringOf(254), ringOf(255), ringOf(1, 2), ringOf(1, 255), ringOf(254, 255), ringOf(3, 7, 200),
		full(), ringOf(248, 249, 250, 251, 252, 253, 254, 255), ringOf(1, 3, 5, 7, 100, 127, 128, 129),
	}
}

func wantRing(t *testing.T, told string, got []api.Epoch, err api.Errno, want []api.Epoch, e api.Errno) {
	t.Helper()
	if !slices.Equal(got, want) || err != e {
		t.Errorf("%s: %v %d, and must be %v %d", told, got, err, want, e)
	}
}

func wantSeal(t *testing.T, r []api.Epoch, s, want string, e api.Errno) {
	t.Helper()
	if got, err := ring.Seal(r, s); got != want || err != e {
		t.Errorf("Seal(%v, %q): %x %d, and must be %x %d", r, s, got, err, want, e)
	}
}

func wantOpen(t *testing.T, r []api.Epoch, sealed, s string, no int, e api.Errno) {
	t.Helper()
	if got, n, err := ring.Open(r, sealed); got != s || n != no || err != e {
		t.Errorf("Open(%v, %x): %q %d %d, and must be %q %d %d", r, sealed, got, n, err, s, no, e)
	}
}

func drawnText(r *rand.Rand, many int) string {
	b := make([]byte, many)
	for i := range b {
		b[i] = byte(r.Intn(256))
	}
	return string(b)
}

func drawnRing(r *rand.Rand) []api.Epoch {
	nos := r.Perm(api.MaxNo)[:1+r.Intn(api.MaxRing)]
	slices.Sort(nos)
	var out []api.Epoch
	for _, no := range nos {
		out = append(out, api.Epoch{No: no + 1, K: api.Key{A: r.Uint64(), B: r.Uint64()}})
	}
	return out
}

func TestK1Check(t *testing.T) {
	for _, r := range append(rightRings(), nil, []api.Epoch{}) {
		if err := ring.Check(r); err != api.OK {
			t.Errorf("Check(%v): %d", r, err)
		}
	}
	for e, rings := range wrongRings() {
		for _, r := range rings {
			if err := ring.Check(r); err != e {
				t.Errorf("Check(%v): %d, and must be %d", r, err, e)
			}
		}
	}
}

// TestK1EveryNo: of one epoch, and of two.
func TestK1EveryNo(t *testing.T) {
	for a := -3; a <= api.MaxNo+3; a++ {
		for b := -3; b <= api.MaxNo+3; b++ {
			want := api.OK
			switch {
			case a < 1 || a > 255 || b < 1 || b > 255:
				want = api.ErrRange
			case b <= a:
				want = api.ErrState
			}
			if err := ring.Check(ringOf(a, b)); err != want {
				t.Errorf("Check of epochs %d and %d: %d, and must be %d", a, b, err, want)
			}
		}
	}
}

// TestK1KeysMayBeAlike: a ring is told by its epochs, whatever their keys.
func TestK1KeysMayBeAlike(t *testing.T) {
	r := []api.Epoch{{No: 4}, {No: 5}, {No: 9, K: api.Key{A: math.MaxUint64, B: math.MaxUint64}}}
	if err := ring.Check(r); err != api.OK {
		t.Errorf("Check(%v): %d", r, err)
	}
	got, err := ring.Add(r, api.Key{})
	wantRing(t, "Add of a key that is there", got, err, append(slices.Clone(r), api.Epoch{No: 10}), api.OK)
}

func TestK1Add(t *testing.T) {
	k := api.Key{A: 5, B: 6}
	for _, r := range [][]api.Epoch{nil, {}} {
		got, err := ring.Add(r, k)
		wantRing(t, "Add to no key", got, err, []api.Epoch{{No: 1, K: k}}, api.OK)
	}
	for _, r := range rightRings() {
		last := r[len(r)-1].No
		got, err := ring.Add(r, k)
		if len(r) == api.MaxRing || last == api.MaxNo {
			wantRing(t, fmt.Sprint("Add to ", r), got, err, nil, api.ErrMany)
		} else {
			wantRing(t, fmt.Sprint("Add to ", r), got, err, append(slices.Clone(r), api.Epoch{No: last + 1, K: k}), api.OK)
		}
	}
	got, err := ring.Add(ringOf(254), keyOf(255))
	wantRing(t, "Add behind 254", got, err, ringOf(254, 255), api.OK)
	got, err = ring.Add(ringOf(1, 2, 3, 4, 5, 6, 9), keyOf(10))
	wantRing(t, "Add an eighth key", got, err, ringOf(1, 2, 3, 4, 5, 6, 9, 10), api.OK)
}

func TestK1Drop(t *testing.T) {
	for _, r := range rightRings() {
		for no := -1; no <= api.MaxNo+1; no++ {
			var want []api.Epoch
			e := api.ErrNone
			for _, x := range r {
				if x.No == no {
					e = api.OK
				} else {
					want = append(want, x)
				}
			}
			if e != api.OK {
				want = nil
			}
			got, err := ring.Drop(r, no)
			wantRing(t, fmt.Sprintf("Drop(%v, %d)", r, no), got, err, want, e)
		}
		for _, no := range []int{math.MinInt, math.MaxInt, r[0].No + 256, r[0].No - 256} {
			got, err := ring.Drop(r, no)
			wantRing(t, fmt.Sprintf("Drop(%v, %d)", r, no), got, err, nil, api.ErrNone)
		}
	}
	for _, no := range []int{0, 1, 255} {
		got, err := ring.Drop(nil, no)
		wantRing(t, "Drop from no key", got, err, nil, api.ErrNone)
	}
}

// TestK1AddAndDrop: keys come and go, and the Nos go on from the last one that is left.
func TestK1AddAndDrop(t *testing.T) {
	var r []api.Epoch
	for no := 1; no <= api.MaxNo; no++ {
		more, err := ring.Add(r, keyOf(no))
		if err != api.OK || more[len(more)-1] != (api.Epoch{No: no, K: keyOf(no)}) || ring.Check(more) != api.OK {
			t.Fatalf("Add to %v: %v %d", r, more, err)
		}
		r = more
		if len(r) == api.MaxRing {
			if r, err = ring.Drop(r, r[0].No); err != api.OK {
				t.Fatalf("Drop of %d: %d", no, err)
			}
		}
	}
	got, err := ring.Add(r, api.Key{})
	wantRing(t, "Add behind 255", got, err, nil, api.ErrMany)
	r, err = ring.Drop(r, api.MaxNo)
	if err != api.OK {
		t.Fatalf("Drop of 255: %d", err)
	}
	got, err = ring.Add(r, keyOf(255))
	wantRing(t, "Add, as 255 is gone", got, err, append(slices.Clone(r), ringOf(255)...), api.OK)
}

// TestWrongRing: each call answers what Check does, ahead of all else.
func TestWrongRing(t *testing.T) {
	for e, rings := range wrongRings() {
		for _, r := range rings {
			got, err := ring.Add(r, api.Key{A: 1})
			wantRing(t, fmt.Sprint("Add to ", r), got, err, nil, e)
			for _, no := range []int{0, r[0].No, 100} {
				got, err = ring.Drop(r, no)
				wantRing(t, fmt.Sprint("Drop from ", r), got, err, nil, e)
			}
			wantSeal(t, r, "abc", "", e)
			wantSeal(t, r, strings.Repeat("a", mostText+1), "", e)
			wantOpen(t, r, sealedOf(r[0], "abc"), "", 0, e)
			wantOpen(t, r, sealedOf(r[len(r)-1], "abc"), "", 0, e)
			wantOpen(t, r, "", "", 0, e)
			wantOpen(t, r, strings.Repeat("a", api.MaxBytes+1), "", 0, e)
		}
	}
}

// TestK2Seal: texts whose tags were reckoned by another program.
func TestK2Seal(t *testing.T) {
	a := api.Epoch{No: 1, K: api.Key{A: 1, B: 2}}
	b := api.Epoch{No: 200, K: api.Key{A: math.MaxUint64}}
	c := api.Epoch{No: 255, K: api.Key{A: 0x0123456789abcdef, B: 0xfedcba9876543210}}
	long := ""
	for i := 145; i < 256; i++ {
		long += string([]byte{byte(i)})
	}
	wantSeal(t, []api.Epoch{a}, "", "\x01\x02\x47\x3f\x5e\xbc\x60\x94\x3c", api.OK)
	wantSeal(t, []api.Epoch{a}, "abc", "\x01abc\x44\x08\xfa\x17\xa0\x6c\xb2\x51", api.OK)
	wantSeal(t, []api.Epoch{a, b}, "\x00", "\xc8\x00\xde\xd6\xba\x81\x7b\x38\x2b\x50", api.OK)
	wantSeal(t, []api.Epoch{a, b, c}, long, "\xff"+long+"\x0a\xc9\x55\x6b\xb1\x74\x97\x44", api.OK)
}

// TestK2EveryLength: by the last key alone, whatever the text's bytes.
func TestK2EveryLength(t *testing.T) {
	r := rand.New(rand.NewSource(1))
	for many := range mostText + 1 {
		for range 10 {
			keys, s := drawnRing(r), drawnText(r, many)
			wantSeal(t, keys, s, sealedOf(keys[len(keys)-1], s), api.OK)
			wantSeal(t, keys[len(keys)-1:], s, sealedOf(keys[len(keys)-1], s), api.OK)
		}
	}
}

func TestK2Wrong(t *testing.T) {
	for _, many := range []int{1, 2, sealing, api.MaxBytes, 1 << 20} {
		s := strings.Repeat("a", mostText+many)
		for _, r := range rightRings() {
			wantSeal(t, r, s, "", api.ErrMany)
		}
		wantSeal(t, nil, s, "", api.ErrNone)
	}
	for _, s := range []string{"", "a", strings.Repeat("a", mostText)} {
		wantSeal(t, nil, s, "", api.ErrNone)
		wantSeal(t, []api.Epoch{}, s, "", api.ErrNone)
	}
	// Bytes are counted, not signs.
	wantSeal(t, ringOf(1), strings.Repeat("é", mostText/2+1), "", api.ErrMany)
}

// TestK3Open: by each key of the ring, not the last one alone.
func TestK3Open(t *testing.T) {
	for _, keys := range rightRings() {
		for _, e := range keys {
			for many := range mostText + 1 {
				s := strings.Repeat("\xff\x00a", many)[:many]
				wantOpen(t, keys, sealedOf(e, s), s, e.No, api.OK)
			}
		}
	}
}

func TestK3Form(t *testing.T) {
	for _, keys := range append(rightRings(), nil) {
		for many := range sealing {
			wantOpen(t, keys, strings.Repeat("\x00", many), "", 0, api.ErrForm)
			wantOpen(t, keys, sealedOf(ringOf(1)[0], "")[:many], "", 0, api.ErrForm)
		}
		for _, more := range []int{1, 2, 100, 1 << 20} {
			wantOpen(t, keys, sealedOf(ringOf(1)[0], strings.Repeat("a", mostText+more)), "", 0, api.ErrForm)
			wantOpen(t, keys, strings.Repeat("\x00", api.MaxBytes+more), "", 0, api.ErrForm)
		}
	}
}

// TestK3None: each No that the ring has not, whatever the tag; those that it has are ErrSum.
func TestK3None(t *testing.T) {
	for _, keys := range append(rightRings(), nil) {
		for no := range 256 {
			want := api.ErrNone
			for _, e := range keys {
				if e.No == no {
					want = api.ErrSum
				}
			}
			for _, many := range []int{sealing - 1, sealing, api.MaxBytes - 1} {
				wantOpen(t, keys, string([]byte{byte(no)})+strings.Repeat("\x00", many), "", 0, want)
			}
			if want == api.ErrNone {
				wantOpen(t, keys, sealedOf(api.Epoch{No: no, K: keyOf(1)}, "abc"), "", 0, want)
			}
		}
	}
}

// TestK3AnotherKey: of the same epoch, one bit of the key is another one.
func TestK3AnotherKey(t *testing.T) {
	e := api.Epoch{No: 9, K: keyOf(9)}
	sealed := sealedOf(e, "abc")
	wantOpen(t, []api.Epoch{e}, sealed, "abc", 9, api.OK)
	for bit := range 64 {
		a, b := e, e
		a.K.A ^= 1 << bit
		b.K.B ^= 1 << bit
		wantOpen(t, []api.Epoch{a}, sealed, "", 0, api.ErrSum)
		wantOpen(t, []api.Epoch{b}, sealed, "", 0, api.ErrSum)
	}
	// What an old key has sealed does not open when it is gone, though other keys are there.
	wantOpen(t, ringOf(3, 4), sealedOf(ringOf(2)[0], "abc"), "", 0, api.ErrNone)
	// Nor under a key's No does what another key of the ring has sealed.
	wantOpen(t, ringOf(3, 4), sealedOf(api.Epoch{No: 3, K: keyOf(4)}, "abc"), "", 0, api.ErrSum)
}

// TestK4SealedOpens: as it was, in the ring as it is, and with more keys, and with others gone.
func TestK4SealedOpens(t *testing.T) {
	r := rand.New(rand.NewSource(2))
	for range 3000 {
		keys, s := drawnRing(r), drawnText(r, r.Intn(mostText+1))
		last := keys[len(keys)-1]
		sealed, err := ring.Seal(keys, s)
		if err != api.OK {
			t.Fatalf("Seal(%v, %q): %d", keys, s, err)
		}
		wantOpen(t, keys, sealed, s, last.No, api.OK)
		if more, err := ring.Add(keys, api.Key{A: r.Uint64()}); err == api.OK {
			wantOpen(t, more, sealed, s, last.No, api.OK)
		}
		if less, err := ring.Drop(keys, keys[0].No); err == api.OK && len(less) > 0 {
			wantOpen(t, less, sealed, s, last.No, api.OK)
		}
		if gone, err := ring.Drop(keys, last.No); err == api.OK {
			wantOpen(t, gone, sealed, "", 0, api.ErrNone)
		}
	}
}

// TestK4EveryByte: a byte more, a byte less, or another one in any place, and it opens no more.
func TestK4EveryByte(t *testing.T) {
	keys := ringOf(3, 7, 200)
	for _, many := range []int{0, 1, 6, 7, 8, 20, mostText} {
		sealed := sealedOf(keys[1], strings.Repeat("a", many))
		for at := range sealed {
			for other := range 256 {
				changed := sealed[:at] + string([]byte{byte(other)}) + sealed[at+1:]
				_, _, err := ring.Open(keys, changed)
				if (err == api.OK) != (changed == sealed) {
					t.Errorf("Open(%x), of %x: %d", changed, sealed, err)
				}
			}
			if _, _, err := ring.Open(keys, sealed[:at]+sealed[at+1:]); err == api.OK {
				t.Errorf("%x opens without byte %d", sealed, at)
			}
			if _, _, err := ring.Open(keys, sealed[:at]+"\x00"+sealed[at:]); err == api.OK {
				t.Errorf("%x opens with a byte more at %d", sealed, at)
			}
		}
	}
}

// TestK4WhatOpensWasSealed: of drawn bytes, some of them with a right tag, just those open that a key of the ring seals so.
func TestK4WhatOpensWasSealed(t *testing.T) {
	r := rand.New(rand.NewSource(3))
	opened := 0
	for range 20000 {
		keys := drawnRing(r)
		sealed := drawnText(r, sealing+r.Intn(mostText+1))
		if r.Intn(2) == 0 {
			e := keys[r.Intn(len(keys))]
			e.No ^= r.Intn(2) * (1 << r.Intn(8))
			e.K.A ^= uint64(r.Intn(2))
			sealed = sealedOf(e, sealed[1:len(sealed)-8])
		}
		s, no, err := ring.Open(keys, sealed)
		at := slices.IndexFunc(keys, func(e api.Epoch) bool { return e.No == int(sealed[0]) })
		if want := at >= 0 && sealedOf(keys[at], sealed[1:len(sealed)-8]) == sealed; want != (err == api.OK) {
			t.Fatalf("Open(%v, %x): %d", keys, sealed, err)
		}
		if err != api.OK {
			continue
		}
		opened++
		if again, err := ring.Seal(keys[:at+1], s); again != sealed || no != keys[at].No || err != api.OK {
			t.Errorf("%x opens to %q of %d, and sealed it is %x %d", sealed, s, no, again, err)
		}
	}
	if opened < 1000 {
		t.Errorf("just %d have opened", opened)
	}
}

// told: all answers of a ring, a No and a text.
func told(r []api.Epoch, no int, s string) string {
	a, e1 := ring.Add(r, keyOf(no))
	b, e2 := ring.Drop(r, no)
	c, e3 := ring.Seal(r, s)
	d, n, e4 := ring.Open(r, s)
	return fmt.Sprintf("%d %v %d %v %d %x %d %x %d %d", ring.Check(r), a, e1, b, e2, c, e3, d, n, e4)
}

// TestP1AnyRing: no call panics, whatever stands in a ring, and with an error there is nothing else.
func TestP1AnyRing(t *testing.T) {
	r := rand.New(rand.NewSource(4))
	for range 20000 {
		keys := make([]api.Epoch, r.Intn(11))
		for i := range keys {
			keys[i].No = i + r.Intn(3)
			if r.Intn(50) == 0 {
				keys[i].No = int(r.Uint64())
			}
		}
		s := drawnText(r, r.Intn(130))
		if a, err := ring.Add(keys, api.Key{}); err != api.OK && len(a) != 0 {
			t.Errorf("Add to %v: %v %d", keys, a, err)
		}
		if a, err := ring.Drop(keys, r.Intn(10)); err != api.OK && len(a) != 0 {
			t.Errorf("Drop from %v: %v %d", keys, a, err)
		}
		if a, err := ring.Seal(keys, s); err != api.OK && a != "" {
			t.Errorf("Seal(%v, %q): %q %d", keys, s, a, err)
		}
		if a, no, err := ring.Open(keys, s); err != api.OK && (a != "" || no != 0) {
			t.Errorf("Open(%v, %q): %q %d %d", keys, s, a, no, err)
		}
	}
}

// TestP2OnlyRead: the ring and the spare room behind it are as they were, and are not kept.
func TestP2OnlyRead(t *testing.T) {
	room := ringOf(1, 2, 3, 4, 5, 6, 7, 8, 9, 10, 11, 12)
	was := slices.Clone(room)
	sealed := sealedOf(room[3], "abc")
	for from := range room {
		for to := from; to <= len(room); to++ {
			told(room[from:to], 4, sealed)
			if !slices.Equal(room, was) {
				t.Fatalf("the ring is %v, of %d to %d", room, from, to)
			}
		}
	}
	first := told(room[2:6], 4, sealed)
	more, _ := ring.Add(room[2:6], keyOf(50))
	less, _ := ring.Drop(room[2:6], 4)
	clear(room)
	wantRing(t, "what was added to", more, api.OK, append(ringOf(3, 4, 5, 6), api.Epoch{No: 7, K: keyOf(50)}), api.OK)
	wantRing(t, "what was dropped from", less, api.OK, ringOf(3, 5, 6), api.OK)
	copy(room, was)
	if again := told(room[2:6], 4, sealed); again != first {
		t.Errorf("%s, and it was %s", again, first)
	}
}

// TestP2AnswersAreTheCallers: what is done to one, its spare room too, is not seen in another, nor in what was handed in.
func TestP2AnswersAreTheCallers(t *testing.T) {
	room := full()
	for many := range len(room) {
		keys, was := room[:many], slices.Clone(room)
		one, _ := ring.Add(keys, keyOf(50))
		two, _ := ring.Add(keys, keyOf(60))
		three, _ := ring.Drop(keys, 1)
		four, _ := ring.Drop(keys, many)
		before := fmt.Sprint(two, four)
		clear(one[:cap(one)])
		clear(three[:cap(three)])
		if after := fmt.Sprint(two, four); after != before || !slices.Equal(room, was) {
			t.Errorf("%s of %v, and it was %s", after, room, before)
		}
	}
}

// TestP3NothingIsKept: asked backward and by many at once, the answers are the same.
func TestP3NothingIsKept(t *testing.T) {
	r := rand.New(rand.NewSource(5))
	rings, texts, first := make([][]api.Epoch, 300), make([]string, 300), make([]string, 300)
	for i := range rings {
		rings[i] = drawnRing(r)
		texts[i] = sealedOf(rings[i][r.Intn(len(rings[i]))], drawnText(r, r.Intn(mostText+10)))
		first[i] = told(rings[i], rings[i][0].No, texts[i])
	}
	var all sync.WaitGroup
	for range 4 {
		all.Go(func() {
			for i := len(rings) - 1; i >= 0; i-- {
				if again := told(rings[i], rings[i][0].No, texts[i]); again != first[i] {
					t.Errorf("%s, and it was %s", again, first[i])
				}
			}
		})
	}
	all.Wait()
}
