package wal

import (
	"math"

	"larch/api"
	"larch/frame"
)

// What a sector for records has ahead of their bytes, and how many of these it takes.
const (
	numberSize = 4
	pieceHead  = numberSize + 1
	maxPiece   = 231
)

// head is what a log's first sector tells: the epoch now, and that from which on sectors count.
type head struct{ epoch, from int }

// can holds if a head can tell its epoch; its from-epoch is one that a head has told, or is not above it.
func (h head) can() bool { return h.epoch <= math.MaxUint32 }

func (h head) value() []byte { return sealed(h.epoch, number(h.from)) }

func headOf(b []byte) (head, bool) {
	r, ok := unsealed(b)
	if !ok || len(r.Data) != numberSize {
		return head{}, false
	}
	// The form alone makes a head: behind one whose from-epoch is above its epoch just no sector counts.
	return head{epoch: r.Epoch, from: numbered(r.Data)}, true
}

// start answers what stands for the sector ahead of the first one: one behind which all may come that is not too old.
func (h head) start() piece { return piece{epoch: h.from, ends: true} }

// counts holds if p counts behind the sector ahead. That p is not below the from-epoch comes of start.
func (h head) counts(p, ahead piece) bool {
	if p.epoch > h.epoch {
		return false
	}
	if ahead.ends {
		return p.epoch >= ahead.epoch
	}
	return p.epoch == ahead.epoch
}

// piece is what a sector for records holds: its number, and bytes of a record, which ends there or goes on.
type piece struct {
	epoch, number int
	ends          bool
	data          string
}

func (p piece) value() []byte {
	end := "\x00"
	if p.ends {
		end = "\x01"
	}
	return sealed(p.epoch, number(p.number)+end+p.data)
}

// pieceOf answers what sector number n holds, if b is of that form.
func pieceOf(b []byte, n int) (piece, bool) {
	r, ok := unsealed(b)
	if !ok || len(r.Data) < pieceHead || len(r.Data) > pieceHead+maxPiece {
		return piece{}, false
	}
	end := r.Data[numberSize]
	if numbered(r.Data[:numberSize]) != n || end > 1 {
		return piece{}, false
	}
	return piece{epoch: r.Epoch, number: n, ends: end == 1, data: r.Data[pieceHead:]}, true
}

// sectorsOf answers how many sectors a record takes.
func sectorsOf(data string) int {
	return max(1, (len(data)+maxPiece-1)/maxPiece)
}

// sealed answers a sector that has a record, and noughts behind it. What is handed in here is none that frame refuses.
func sealed(epoch int, data string) []byte {
	b, _ := frame.Write(api.Record{Epoch: epoch, Data: data})
	value := make([]byte, api.Sector)
	copy(value, b)
	return value
}

// unsealed answers the record of a sector, if it is one with noughts alone behind it.
func unsealed(b []byte) (api.Record, bool) {
	r, n, e := frame.First(b)
	if e != api.OK {
		return api.Record{}, false
	}
	for _, x := range b[n:] {
		if x != 0 {
			return api.Record{}, false
		}
	}
	return r, true
}

// number answers a number's bytes, the highest first.
func number(n int) string {
	return string([]byte{byte(n >> 24), byte(n >> 16), byte(n >> 8), byte(n)})
}

// numbered answers the number that these bytes are, the highest first.
func numbered(s string) int {
	n := 0
	for i := range len(s) {
		n = n<<8 | int(s[i])
	}
	return n
}
