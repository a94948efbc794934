package impl

import "slices"

// MaxPayload bounds the bytes of a record.
const MaxPayload = 8192

// Why a scan has ended, see chapter 3.
const (
	ScanEnd   = 0
	ScanShort = 1
	ScanHead  = 2
	ScanSum   = 3
	ScanPad   = 4
)

// Record is a type and its payload.
type Record struct {
	Type int
	Data []byte
}

// frameHead is the bytes of a record ahead of its payload.
const frameHead = 12

// sumTable has for each four bits that fall out what is to be XORed in: by halves of a byte the table stays short.
var sumTable = [16]uint32{
	0x00000000, 0x105EC76F, 0x20BD8EDE, 0x30E349B1, 0x417B1DBC, 0x5125DAD3, 0x61C69362, 0x7198540D,
	0x82F63B78, 0x92A8FC17, 0xA24BB5A6, 0xB21572C9, 0xC38D26C4, 0xD3D3E1AB, 0xE330A81A, 0xF36E6F75,
}

// Crc32c is the sum of a record, see chapter 3.
func Crc32c(data []byte) uint32 { return ^sumOver(^uint32(0), data) }

// sumOver goes on with a sum, so that a head and a payload are summed up without being joined.
func sumOver(sum uint32, data []byte) uint32 {
	for _, c := range data {
		sum ^= uint32(c)
		sum = sum>>4 ^ sumTable[sum&15]
		sum = sum>>4 ^ sumTable[sum&15]
	}
	return sum
}

// recordSum is the sum of the eight bytes ahead of it and the payload behind it.
func recordSum(head, data []byte) uint32 {
	return ^sumOver(sumOver(^uint32(0), head[:frameHead-4]), data)
}

func padding(size int) int { return (4 - size%4) % 4 }

func putNumber(b []byte, n uint32) {
	for i := range 4 {
		b[i] = byte(n >> (8 * i))
	}
}

func takeNumber(b []byte) uint32 {
	n := uint32(0)
	for i := range 4 {
		n |= uint32(b[i]) << (8 * i)
	}
	return n
}

// FrameEncode lays a record down, see chapter 3.
func FrameEncode(r Record) ([]byte, int) {
	if r.Type < 1 || r.Type > 255 || len(r.Data) > MaxPayload {
		return nil, ErrRange
	}
	size := len(r.Data)
	b := make([]byte, frameHead+size+padding(size))
	putNumber(b, uint32(size))
	b[4] = byte(r.Type)
	putNumber(b[8:], recordSum(b, r.Data))
	copy(b[frameHead:], r.Data)
	return b, OK
}

// scan goes through the records of a file.
type scan struct {
	file   []byte
	valid  int // bytes of the records that were told
	reason int // why the next one wasn't, once all have been told
}

// records is ranged over; what it tells is new memory.
func (s *scan) records(yield func(Record) bool) {
	for {
		rest := s.file[s.valid:]
		s.reason = frameFault(rest)
		if s.reason != ScanEnd || len(rest) == 0 {
			return
		}
		size := int(takeNumber(rest))
		s.valid += frameHead + size + padding(size)
		if !yield(Record{Type: int(rest[4]), Data: slices.Clone(rest[frameHead : frameHead+size])}) {
			return
		}
	}
}

// frameFault says why b doesn't begin with a record; ScanEnd if it does, or is empty.
func frameFault(b []byte) int {
	if len(b) == 0 {
		return ScanEnd
	}
	if len(b) < frameHead {
		return ScanShort
	}
	size := takeNumber(b)
	if size > MaxPayload || b[4] == 0 || b[5] != 0 || b[6] != 0 || b[7] != 0 {
		return ScanHead
	}
	end := frameHead + int(size)
	if end+padding(int(size)) > len(b) {
		return ScanShort
	}
	if takeNumber(b[8:]) != recordSum(b, b[frameHead:end]) {
		return ScanSum
	}
	for _, c := range b[end : end+padding(int(size))] {
		if c != 0 {
			return ScanPad
		}
	}
	return ScanEnd
}

// FrameScan reads records: records, valid bytes, reason; see chapter 3.
func FrameScan(b []byte) ([]Record, int, int) {
	s := scan{file: b}
	var out []Record
	for r := range s.records {
		out = append(out, r)
	}
	return out, s.valid, s.reason
}
