package frame

import (
	"bytes"
	"encoding/binary"
	"hash/adler32"
	"math"
	"math/rand/v2"
	"slices"
	"testing"

	"outrider/api"
	"outrider/stamp"
)

// byHand encodes what Put may not: the length need not be that of the payload.
func byHand(length uint32, at stamp.Stamp, payload []byte) []byte {
	front := binary.LittleEndian.AppendUint32(nil, length)
	front = binary.LittleEndian.AppendUint64(front, uint64(at))
	check := adler32.Checksum(slices.Concat(front, payload))
	return append(binary.LittleEndian.AppendUint32(front, check), payload...)
}

func encoded(r Rec) []byte { return byHand(uint32(len(r.B)), r.At, r.B) }

// wanted returns what Get must return, by the order of the chapter's words.
func wanted(b []byte) (Rec, int, api.Errno) {
	if len(b) >= 4 && binary.LittleEndian.Uint32(b) > api.MaxPayload {
		return Rec{}, 0, api.ESIZE
	}
	if len(b) < 16 || len(b) < 16+int(binary.LittleEndian.Uint32(b)) {
		return Rec{}, 0, api.EMORE
	}
	n := 16 + int(binary.LittleEndian.Uint32(b))
	r := Rec{At: stamp.Stamp(binary.LittleEndian.Uint64(b[4:])), B: b[16:n]}
	if !bytes.Equal(encoded(r), b[:n]) {
		return Rec{}, 0, api.EFORM
	}
	return r, n, api.OK
}

func same(r, s Rec) bool { return r.At == s.At && bytes.Equal(r.B, s.B) }

// checkGet compares Get with the chapter's words for any bytes.
func checkGet(t *testing.T, b []byte) {
	t.Helper()
	r, n, err := Get(b)
	want, wantN, wantErr := wanted(b)
	if !same(r, want) || n != wantN || err != wantErr {
		t.Errorf("P4.1: Get of %d bytes that begin %.20q: %s, %d bytes, %d, %d; want %s, %d bytes, %d, %d",
			len(b), b, r.At, len(r.B), n, err, want.At, len(want.B), wantN, wantErr)
	}
}

// checkAll compares All with the calls of Get that the chapter puts in its place.
func checkAll(t *testing.T, b []byte) {
	t.Helper()
	var want []Rec
	wantN, wantErr := 0, api.OK
	for wantN < len(b) && wantErr == api.OK {
		var r Rec
		var n int
		r, n, wantErr = wanted(b[wantN:])
		wantN += n
		if wantErr == api.OK {
			want = append(want, r)
		}
	}
	l, n, err := All(b)
	if !slices.EqualFunc(l, want, same) || n != wantN || err != wantErr {
		t.Errorf("P4.1: All of %d bytes that begin %.20q: %d records, %d, %d; want %d records, %d, %d",
			len(b), b, len(l), n, err, len(want), wantN, wantErr)
	}
}

// stamps are words whose bytes all differ, and the edges of both parts.
var stamps = []stamp.Stamp{
	0, 1, 2, 255, 256, 3<<44 | 17, 0x0102030405060708, 0xf8f7f6f5f4f3f2f1, 1<<31 - 1, 1 << 31, math.MaxUint32, 1 << 32,
	api.MaxOff, 1 << 44, api.MaxEpoch << 44, 1<<63 - 1, 1 << 63, math.MaxUint64,
}

// payloads are of every length at which something changes, with bytes of every value.
func payloads() [][]byte {
	all := [][]byte{nil, {}, []byte("ab"), []byte("hello"), {0}, {255}}
	mixed := rand.New(rand.NewPCG(4, 1))
	for _, size := range []int{1, 2, 3, 15, 16, 17, 255, 256, 257, 511, 512, 1022, 1023, api.MaxPayload} {
		all = append(all, make([]byte, size), bytes.Repeat([]byte{255}, size))
		some := make([]byte, size)
		for i := range some {
			some[i] = byte(mixed.Uint32())
		}
		all = append(all, some)
	}
	return all
}

func records() []Rec {
	var all []Rec
	for _, at := range stamps {
		for _, payload := range payloads() {
			all = append(all, Rec{At: at, B: payload})
		}
	}
	return all
}

func TestExamplesOfChapter4(t *testing.T) {
	at, _ := stamp.Pack(0, 1)
	b, err := Put(nil, Rec{At: at, B: []byte("ab")})
	// Over the bytes 2, 0, 0, 0, 1, seven zeros, a and b, the lower number of the checksum
	// is 3 four times, 4 eight times, 101 and 199; the upper one is their sum, 344.
	want := "\x02\x00\x00\x00" + "\x01\x00\x00\x00\x00\x00\x00\x00" + "\xc7\x00\x58\x01" + "ab"
	if len(b) != 18 || string(b) != want || err != api.OK {
		t.Errorf("P4.1: Put of 0.1 and ab: %q, %d; want %q", b, err, want)
	}
}

func TestPutAndGetOfKnownBytes(t *testing.T) {
	for _, c := range []struct {
		r Rec
		b string
	}{
		{Rec{}, "\x00\x00\x00\x00\x00\x00\x00\x00\x00\x00\x00\x00\x01\x00\x0c\x00"},
		{Rec{At: 1 << 44}, "\x00\x00\x00\x00\x00\x00\x00\x00\x00\x10\x00\x00\x11\x00\x3c\x00"},
		{Rec{At: 0x0807060504030201}, "\x00\x00\x00\x00\x01\x02\x03\x04\x05\x06\x07\x08\x25\x00\x84\x00"},
		{Rec{B: []byte{0}}, "\x01\x00\x00\x00\x00\x00\x00\x00\x00\x00\x00\x00\x02\x00\x1a\x00\x00"},
	} {
		b, err := Put(nil, c.r)
		if string(b) != c.b || err != api.OK {
			t.Errorf("P4.1: Put of %s, %q: %q, %d; want %q", c.r.At, c.r.B, b, err, c.b)
		}
		r, n, err := Get([]byte(c.b))
		if !same(r, c.r) || n != len(c.b) || err != api.OK {
			t.Errorf("P4.1: Get of %q: %s, %q, %d, %d", c.b, r.At, r.B, n, err)
		}
	}
}

func TestPutFollowsWhatIsThere(t *testing.T) {
	fronts := [][]byte{nil, {}, {0}, []byte("kept"), bytes.Repeat([]byte{255}, 5000)}
	for _, r := range records() {
		for _, front := range fronts {
			b, err := Put(front, r)
			if want := append(slices.Clone(front), encoded(r)...); !bytes.Equal(b, want) || err != api.OK {
				t.Errorf("P4.1: Put of %s and %d bytes behind %d: %d bytes, %d", r.At, len(r.B), len(front), len(b), err)
			}
		}
	}
}

func TestPutRejectsLongPayloads(t *testing.T) {
	for _, size := range []int{api.MaxPayload + 1, api.MaxPayload + 2, 2 * api.MaxPayload, 1 << 16, 1<<16 + 5} {
		for _, front := range [][]byte{nil, {}, []byte("kept"), encoded(Rec{At: 1})} {
			b, err := Put(front, Rec{At: 7, B: make([]byte, size)})
			if b != nil || err != api.ESIZE {
				t.Errorf("P4.1: Put of %d bytes behind %d: %d bytes, %d", size, len(front), len(b), err)
			}
		}
	}
}

func TestSize(t *testing.T) {
	for _, size := range []int{0, 1, 2, 16, 255, 1023, api.MaxPayload, api.MaxPayload + 1, 5000, 1 << 20} {
		for _, at := range stamps {
			if n := Size(Rec{At: at, B: make([]byte, size)}); n != 16+size {
				t.Errorf("P4.1: Size of %s and %d bytes: %d", at, size, n)
			}
		}
	}
	if n := Size(Rec{}); n != 16 {
		t.Errorf("P4.1: Size of no record: %d", n)
	}
}

func TestGetOfRecordsWithAndWithoutRest(t *testing.T) {
	for _, r := range records() {
		for _, rest := range []string{"", "\x00", "rest", "\xff\xff\xff\xff", string(encoded(r))} {
			b := append(encoded(r), rest...)
			got, n, err := Get(b)
			if !same(got, r) || n != 16+len(r.B) || err != api.OK || Size(got) != n {
				t.Errorf("P4.1: Get of %s and %d bytes, %d bytes before the end: %s, %d bytes, %d, %d",
					r.At, len(r.B), len(rest), got.At, len(got.B), n, err)
			}
		}
	}
}

// isNothing reports whether R2 holds for what Get returned together with an error.
func isNothing(r Rec, n int) bool { return r.At == 0 && len(r.B) == 0 && n == 0 }

func TestGetOfIncompleteRecords(t *testing.T) {
	for _, payload := range payloads() {
		b := encoded(Rec{At: 0x0102030405060708, B: payload})
		for size := range b {
			if r, n, err := Get(b[:size]); !isNothing(r, n) || err != api.EMORE {
				t.Errorf("P4.1: Get of %d of %d bytes: %s, %d, %d", size, len(b), r.At, n, err)
			}
		}
	}
}

func TestGetOfLengths(t *testing.T) {
	head := string(make([]byte, 12))
	for _, c := range []struct {
		b    string
		want api.Errno
		why  string
	}{
		{"", api.EMORE, "no bytes"},
		{"\xff\xff\xff", api.EMORE, "no length yet"},
		{"\x00\x00\x00\x00", api.EMORE, "nothing but a length"},
		{"\x00\x04\x00\x00", api.EMORE, "the greatest length"},
		{"\x01\x04\x00\x00", api.ESIZE, "a length that is too great by 1"},
		{"\x01\x04\x00\x00" + head, api.ESIZE, "the same with a head"},
		{"\x01\x04\x00\x00" + head + string(make([]byte, 1025)), api.ESIZE, "the same with all bytes"},
		{"\x00\x04\x00\x00" + head + string(make([]byte, 1023)), api.EMORE, "the greatest length, one byte short"},
		{"\x00\x04\x00\x00" + head + string(make([]byte, 1024)), api.EFORM, "the greatest length, no checksum"},
		{"\x00\x00\x01\x00" + head, api.ESIZE, "a length that is 0 in its lower half"},
		{"\x00\x00\x00\x01" + head, api.ESIZE, "a length whose highest byte alone is set"},
		{"\x00\x00\x00\x80" + head, api.ESIZE, "a length that could be taken for a negative one"},
		{"\xff\xff\xff\xff" + head, api.ESIZE, "the greatest number"},
		{"\xf0\xff\xff\xff" + head, api.ESIZE, "a length that could be taken for the missing head"},
		{"\x01\x00\x00\x00" + head, api.EMORE, "a wrong checksum, but one byte short"},
		{"\x00\x00\x00\x00" + head, api.EFORM, "zeros"},
		{string(make([]byte, 4096)), api.EFORM, "many zeros"},
	} {
		if r, n, err := Get([]byte(c.b)); !isNothing(r, n) || err != c.want {
			t.Errorf("P4.1: Get of %s: %s, %d, %d; want %d", c.why, r.At, n, err, c.want)
		}
	}
}

// A right checksum doesn't help a length that is too great.
func TestGetRejectsLongPayloads(t *testing.T) {
	for _, size := range []int{api.MaxPayload + 1, api.MaxPayload + 2, 2048, 1 << 16, 1<<16 + 3} {
		b := byHand(uint32(size), 5, make([]byte, size))
		for _, cut := range []int{4, 15, 16, 16 + size - 1, 16 + size} {
			if r, n, err := Get(b[:cut]); !isNothing(r, n) || err != api.ESIZE {
				t.Errorf("P4.1: Get of %d bytes of a record of %d: %s, %d, %d", cut, size, r.At, n, err)
			}
		}
	}
}

func TestGetOfEveryTurnedByte(t *testing.T) {
	for _, text := range []string{"", "a", "hello"} {
		b := append(encoded(Rec{At: 0x0102030405060708, B: []byte(text)}), "rest"...)
		end := 16 + len(text)
		for at := range b {
			for to := range 256 {
				c := slices.Clone(b)
				c[at] = byte(to)
				checkGet(t, c)
				r, n, err := Get(c)
				if turned := c[at] != b[at]; turned && at >= 4 && at < end && (!isNothing(r, n) || err != api.EFORM) {
					t.Errorf("P4.1: Get with byte %d turned to %d: %s, %d, %d", at, to, r.At, n, err)
				}
			}
		}
	}
}

// The checksum is of the length and the stamp followed by the payload: not of
// less, not of more, and not in another order.
func TestGetRejectsOtherChecksums(t *testing.T) {
	payload := []byte("payload")
	b := encoded(Rec{At: 0x0102030405060708, B: payload})
	right := adler32.Checksum(slices.Concat(b[:12], payload))
	for what, wrong := range map[string]uint32{
		"the payload":                adler32.Checksum(payload),
		"the front":                  adler32.Checksum(b[:12]),
		"the stamp and the payload":  adler32.Checksum(slices.Concat(b[4:12], payload)),
		"the length and the payload": adler32.Checksum(slices.Concat(b[:4], payload)),
		"the payload and the front":  adler32.Checksum(slices.Concat(payload, b[:12])),
		"all with a zero checksum":   adler32.Checksum(slices.Concat(b[:12], make([]byte, 4), payload)),
		"one less":                   right - 1,
		"the halves exchanged":       right<<16 | right>>16,
		"all bits":                   math.MaxUint32,
	} {
		c := slices.Clone(b)
		binary.LittleEndian.PutUint32(c[12:], wrong)
		if r, n, err := Get(c); !isNothing(r, n) || err != api.EFORM {
			t.Errorf("P4.1: Get with the checksum of %s: %s, %d, %d", what, r.At, n, err)
		}
	}
}

// A checksum is compared as it is, not modulo 65521.
func TestGetRejectsChecksumsThatAreNotReduced(t *testing.T) {
	front := string(make([]byte, 12))
	if r, n, err := Get([]byte(front + "\x01\x00\x0c\x00")); !same(r, Rec{}) || n != 16 || err != api.OK {
		t.Errorf("P4.1: Get of the record of zeros: %s, %d, %d", r.At, n, err)
	}
	for _, check := range []string{"\xf2\xff\x0c\x00", "\x01\x00\xfd\xff", "\xf2\xff\xfd\xff"} {
		if r, n, err := Get([]byte(front + check)); !isNothing(r, n) || err != api.EFORM {
			t.Errorf("P4.1: Get with the checksum %q: %s, %d, %d", check, r.At, n, err)
		}
	}
}

func TestGetAndAllOfMixedBytes(t *testing.T) {
	mixed := rand.New(rand.NewPCG(4, 2))
	for range 20000 {
		var b []byte
		for range mixed.IntN(4) {
			b = append(b, encoded(Rec{At: stamp.Stamp(mixed.Uint64()), B: make([]byte, mixed.IntN(20))})...)
		}
		for range mixed.IntN(3) {
			b = append(b, byte(mixed.IntN(3)*mixed.IntN(128)))
		}
		for range mixed.IntN(3) * min(len(b), 1) {
			b[mixed.IntN(len(b))] = byte(mixed.Uint32())
		}
		b = b[:len(b)-mixed.IntN(2)*mixed.IntN(len(b)+1)]
		checkGet(t, b)
		checkAll(t, b)
	}
}

func TestAllOfRecords(t *testing.T) {
	want := records()
	var b []byte
	for _, r := range want {
		b = append(b, encoded(r)...)
	}
	l, n, err := All(b)
	if !slices.EqualFunc(l, want, same) || n != len(b) || err != api.OK {
		t.Errorf("P4.1: All of %d records: %d, %d, %d", len(want), len(l), n, err)
	}
	for _, nothing := range [][]byte{nil, {}} {
		if l, n, err := All(nothing); len(l) != 0 || n != 0 || err != api.OK {
			t.Errorf("P4.1: All of nothing: %d, %d, %d", len(l), n, err)
		}
	}
	// The records need not follow one another, nor differ.
	twice := slices.Concat(encoded(Rec{At: 9}), encoded(Rec{At: 2, B: []byte("b")}), encoded(Rec{At: 9}))
	if l, n, err := All(twice); len(l) != 3 || l[0].At != 9 || l[1].At != 2 || l[2].At != 9 || n != 49 || err != api.OK {
		t.Errorf("P4.1: All of 9, 2 and 9: %d, %d, %d", len(l), n, err)
	}
}

func TestAllOfEveryCut(t *testing.T) {
	recs := []Rec{{At: 1, B: []byte("hello")}, {At: 2}, {At: 3, B: []byte("world!")}}
	var b []byte
	ends := map[int]int{0: 0}
	for i, r := range recs {
		b = append(b, encoded(r)...)
		ends[len(b)] = i + 1
	}
	many, size := 0, 0
	for cut := range len(b) + 1 {
		want := api.EMORE
		if i, isEnd := ends[cut]; isEnd {
			many, size, want = i, cut, api.OK
		}
		l, n, err := All(b[:cut])
		if !slices.EqualFunc(l, recs[:many], same) || n != size || err != want {
			t.Errorf("P4.1: All of %d bytes: %d records, %d, %d; want %d, %d, %d", cut, len(l), n, err, many, size, want)
		}
	}
}

// What comes before an error is returned, and what comes after it is not.
func TestAllEndsAtTheFirstError(t *testing.T) {
	front := slices.Concat(encoded(Rec{At: 1, B: []byte("a")}), encoded(Rec{At: 2}))
	more := encoded(Rec{At: 3, B: []byte("later")})
	wrong := slices.Clone(more)
	wrong[20] ^= 1
	for _, c := range []struct {
		rest []byte
		want api.Errno
	}{
		{[]byte{1, 4, 0, 0}, api.ESIZE},
		{append([]byte{255, 255, 255, 255}, more...), api.ESIZE},
		{append(wrong, more...), api.EFORM},
		{make([]byte, 16), api.EFORM},
		{make([]byte, 15), api.EMORE},
		{more[:20], api.EMORE},
		{[]byte{0}, api.EMORE},
	} {
		l, n, err := All(c.rest)
		if len(l) != 0 || n != 0 || err != c.want {
			t.Errorf("P4.1: All of %.20q: %d records, %d, %d; want %d", c.rest, len(l), n, err, c.want)
		}
		l, n, err = All(slices.Concat(front, c.rest))
		if len(l) != 2 || l[0].At != 1 || string(l[0].B) != "a" || l[1].At != 2 || n != 33 || err != c.want {
			t.Errorf("P4.1: All of 2 records and %.20q: %d records, %d, %d; want %d", c.rest, len(l), n, err, c.want)
		}
	}
}

func TestAllOfManyRecords(t *testing.T) {
	const many = 1 << 17
	b := bytes.Repeat(encoded(Rec{At: 5, B: []byte("x")}), many)
	l, n, err := All(b)
	if len(l) != many || n != len(b) || err != api.OK {
		t.Errorf("P4.1: All of %d records: %d, %d, %d", many, len(l), n, err)
	}
	l, n, err = All(append(b, 0))
	if len(l) != many || n != len(b) || err != api.EMORE {
		t.Errorf("P4.1: All of %d records and a byte: %d, %d, %d", many, len(l), n, err)
	}
}

// filled returns a copy of text whose spare capacity holds dots.
func filled(text string, spare int) []byte {
	whole := append([]byte(text), bytes.Repeat([]byte{'.'}, spare)...)
	return whole[:len(text)]
}

// spoil overwrites b and its spare capacity.
func spoil(b []byte) {
	b = b[:cap(b)]
	for i := range b {
		b[i] = '!'
	}
}

func isUntouched(b []byte, text string) bool {
	spare := b[len(b):cap(b)]
	return string(b) == text && len(bytes.TrimRight(spare, ".\x00")) == 0
}

// R4: Put changes neither of its arguments, and its result shares memory with none.
func TestPutSharesNoMemory(t *testing.T) {
	for _, spare := range []int{0, 1, 16, 17, 2000} {
		b, payload := filled("kept", spare), filled("payload", spare)
		first, _ := Put(b, Rec{At: 1, B: payload})
		second, _ := Put(b, Rec{At: 2, B: payload[:0]})
		if !isUntouched(b, "kept") || !isUntouched(payload, "payload") {
			t.Errorf("R4: Put with %d spare bytes turned its arguments to %q and %q", spare, b[:cap(b)], payload[:cap(payload)])
		}
		spoil(second)
		if !isUntouched(b, "kept") || !isUntouched(payload, "payload") {
			t.Errorf("R4: a result of Put with %d spare bytes shares its arguments", spare)
		}
		spoil(b)
		spoil(payload)
		if want := append([]byte("kept"), encoded(Rec{At: 1, B: []byte("payload")})...); !bytes.Equal(first, want) {
			t.Errorf("R4: Put with %d spare bytes: %q after its arguments changed", spare, first)
		}
	}
}

// A record may be put behind bytes that its own payload is a part of.
func TestPutOfWhatItFollows(t *testing.T) {
	whole := []byte("abcdefgh")
	b, err := Put(whole[:3], Rec{At: 1, B: whole[1:6]})
	if want := append([]byte("abc"), encoded(Rec{At: 1, B: []byte("bcdef")})...); !bytes.Equal(b, want) || err != api.OK {
		t.Errorf("P4.1: Put of bytes of its own front: %q, %d", b, err)
	}
	if string(whole) != "abcdefgh" {
		t.Errorf("R4: Put turned its argument to %q", whole)
	}
}

// R4: Get changes nothing and returns new memory.
func TestGetSharesNoMemory(t *testing.T) {
	for _, payload := range []string{"", "a", "hello", "0123456789"} {
		text := string(encoded(Rec{At: 1, B: []byte(payload)})) + "rest"
		b := filled(text, 40)
		r, _, _ := Get(b)
		other, _, _ := Get(b)
		spoil(other.B)
		if !isUntouched(b, text) || string(r.B) != payload {
			t.Errorf("R4: the payload %q that Get returned shares memory", payload)
		}
		spoil(b)
		if string(r.B) != payload {
			t.Errorf("R4: Get: %q after its argument changed; want %q", r.B, payload)
		}
	}
}

// R4: All changes nothing, and none of its payloads shares memory with another one.
func TestAllSharesNoMemory(t *testing.T) {
	texts := []string{"one", "", "three", "four", "", "a longer one of several bytes"}
	var text []byte
	for i, one := range texts {
		text = append(text, encoded(Rec{At: stamp.Stamp(i), B: []byte(one)})...)
	}
	for at := range texts {
		b := filled(string(text), 40)
		l, _, _ := All(b)
		other, _, _ := All(b)
		other[0].At = 99
		spoil(l[at].B)
		if !isUntouched(b, string(text)) {
			t.Errorf("R4: record %d that All returned shares the argument", at)
		}
		spoil(b)
		for i, r := range l {
			if i != at && (r.At != stamp.Stamp(i) || string(r.B) != texts[i]) {
				t.Errorf("R4: record %d that All returned: %s, %q after record %d changed", i, r.At, r.B, at)
			}
		}
	}
}

// R5: the same arguments give the same results, whatever was asked before.
func TestCallsAreIndependent(t *testing.T) {
	b := encoded(Rec{At: 1, B: []byte("one")})
	for range 3 {
		checkGet(t, b)
		checkGet(t, b[:10])
		checkAll(t, append(slices.Clone(b), 0))
		checkAll(t, b)
		Put(b, Rec{B: make([]byte, api.MaxPayload+1)})
		if c, err := Put(nil, Rec{At: 1, B: []byte("one")}); !bytes.Equal(c, b) || err != api.OK {
			t.Errorf("R5: Put again: %q, %d", c, err)
		}
	}
}
