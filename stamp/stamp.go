// Package stamp packs log positions into words: see DOC.md, chapter 1.
package stamp

import (
	"strconv"
	"strings"

	"outrider/api"
)

// Stamp is a log position: the epoch in the upper bits, the offset in the lower ones.
type Stamp uint64

const offBits = 44

// Pack returns the stamp of an epoch and an offset, or false if one of them is out of range.
func Pack(epoch, off int64) (Stamp, bool) {
	if epoch < 0 || epoch > api.MaxEpoch || off < 0 || off > api.MaxOff {
		return 0, false
	}
	return Stamp(epoch)<<offBits | Stamp(off), true
}

// Epoch returns the epoch.
func (s Stamp) Epoch() int64 { return int64(s >> offBits) }

// Off returns the offset.
func (s Stamp) Off() int64 { return int64(s & api.MaxOff) }

// Next returns the stamp of the next offset, or false if there is none.
func (s Stamp) Next() (Stamp, bool) { return Pack(s.Epoch(), s.Off()+1) }

// Up returns the stamp of the next epoch, or false if there is none.
func (s Stamp) Up() (Stamp, bool) { return Pack(s.Epoch()+1, s.Off()) }

// String returns the epoch and the offset, with a point between them.
func (s Stamp) String() string {
	return strconv.FormatInt(s.Epoch(), 10) + "." + strconv.FormatInt(s.Off(), 10)
}

// Parse returns the stamp whose String is t, or false if there is none.
func Parse(t string) (Stamp, bool) {
	left, right, _ := strings.Cut(t, ".")
	epoch, epochErr := strconv.ParseInt(left, 10, 64)
	off, offErr := strconv.ParseInt(right, 10, 64)
	s, fits := Pack(epoch, off)
	// ParseInt also accepts signs and leading zeros, which String never writes.
	if epochErr != nil || offErr != nil || !fits || s.String() != t {
		return 0, false
	}
	return s, true
}

// Fold maps a signed number to an unsigned one, so that numbers near 0 stay small.
func Fold(v int64) uint64 {
	// The shift of the signed number yields only copies of its sign.
	return uint64(v)<<1 ^ uint64(v>>63)
}

// Unfold is the inverse of Fold.
func Unfold(u uint64) int64 { return int64(u>>1) ^ -int64(u&1) }

// Narrow returns u if it fits into so many bits, and false otherwise.
func Narrow(u uint64, bits int) (uint64, bool) {
	if !isWidth(bits) || u>>uint(bits) != 0 {
		return 0, false
	}
	return u, true
}

// Wide returns the lowest bits of u as a two's complement number.
func Wide(u uint64, bits int) int64 {
	if !isWidth(bits) {
		return 0
	}
	above := uint(64 - bits)
	// Only the shift of a signed number copies the sign down again.
	return int64(u<<above) >> above
}

func isWidth(bits int) bool { return bits >= 1 && bits <= 64 }
