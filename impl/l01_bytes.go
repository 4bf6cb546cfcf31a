package impl

import (
	"errors"
	"strconv"
)

// Constants, see chapter 1.
const (
	OK        = 0
	ErrForm   = 1
	ErrSize   = 2
	ErrSyntax = 3
	ErrShort  = 4
	ErrSum    = 5
	ErrNone   = 6
	ErrThere  = 7
	ErrRange  = 8
	ErrFull   = 9
	ErrState  = 10
	MaxBytes  = 20000
	MaxList   = 400
	MaxTime   = 1000000000
)

const (
	maxName    = 20
	sumBytes   = 4
	maxCrc     = 1<<32 - 1
	crcTaps    = 0xEDB88320
	moreBit    = 128
	tenthShift = 63
)

// NumOut is a thing of chapter 2.
type NumOut struct {
	N    int64
	At   int64
	Code int64
}

// TextOut is a thing of chapter 2.
type TextOut struct {
	Text string
	At   int64
	Code int64
}

// readFault carries the code of what is wrong with bytes up to the face, which tells it.
type readFault struct {
	code int64
}

func (f readFault) Error() string {
	return "bytes that can't be read: code " + strconv.FormatInt(f.code, 10)
}

// codeOf answers OK for no error, so that a face needs no branch of its own for it.
func codeOf(err error) int64 {
	var fault readFault
	if errors.As(err, &fault) {
		return fault.code
	}
	return OK
}

// PutNum: see chapter 2.
func PutNum(n int64) string {
	u := uint64(n) << 1
	if n < 0 {
		u = ^u // -2n-1 modulo 2^64, also of the least int64, whose -2n is no int64
	}
	var row []byte
	for u >= moreBit {
		row = append(row, byte(u)|moreBit)
		u >>= 7
	}
	return string(append(row, byte(u)))
}

// signed takes back what PutNum makes of a number ahead of cutting it into bytes.
func signed(u uint64) int64 {
	if u&1 == 1 {
		return int64(^(u >> 1))
	}
	return int64(u >> 1)
}

// GetNum: see chapter 2.
func GetNum(text string, at int64) NumOut {
	if len(text) > MaxBytes {
		return NumOut{Code: ErrSize}
	}
	n, behind, err := readNum(text, at)
	return NumOut{N: n, At: behind, Code: codeOf(err)}
}

// readNum answers zeros beside an error, as the faces must.
func readNum(text string, at int64) (int64, int64, error) {
	var u uint64
	var shift uint
	var b byte
	var code int64
	if at < 0 {
		code = ErrForm
		goto wrong
	}
more:
	if at >= int64(len(text)) {
		code = ErrShort
		goto wrong
	}
	b = text[at]
	at++
	if shift == tenthShift && b > 1 {
		// Only one bit of 64 is left for the tenth byte, and no eleventh may follow.
		code = ErrSyntax
		goto wrong
	}
	u |= uint64(b&^moreBit) << shift
	if b < moreBit {
		goto last
	}
	shift += 7
	goto more
last:
	if b == 0 && shift > 0 {
		// A highest byte of 0 adds nothing: fewer bytes would have done.
		code = ErrSyntax
		goto wrong
	}
	return signed(u), at, nil
wrong:
	return 0, 0, readFault{code}
}

// PutText: see chapter 2.
func PutText(t string) string {
	if len(t) > MaxBytes {
		return ""
	}
	return joined(PutNum(int64(len(t))), t)
}

// GetText: see chapter 2.
func GetText(text string, at int64) TextOut {
	if len(text) > MaxBytes {
		return TextOut{Code: ErrSize}
	}
	t, behind, err := readText(text, at)
	return TextOut{Text: t, At: behind, Code: codeOf(err)}
}

// readText answers zeros beside an error, as the faces must.
func readText(text string, at int64) (string, int64, error) {
	length, begin, err := readNum(text, at)
	if err != nil {
		return "", 0, err
	}
	if length < 0 || length > MaxBytes {
		return "", 0, readFault{ErrSyntax}
	}
	if length > int64(len(text))-begin {
		return "", 0, readFault{ErrShort}
	}
	return joined(text[begin:begin+length], ""), begin + length, nil
}

// joined lays one text behind the other in memory of its own: an answer shares none with an argument.
func joined(front string, back string) string {
	row := make([]byte, len(front)+len(back))
	copy(row, front)
	copy(row[len(front):], back)
	return string(row)
}

// NameRight: see chapter 2.
func NameRight(t string) bool {
	if len(t) < 1 || len(t) > maxName || !isLetter(t[0]) {
		return false
	}
	for i := 1; i < len(t); i++ {
		if !isLetter(t[i]) && !isDigit(t[i]) && t[i] != '_' {
			return false
		}
	}
	return true
}

func isLetter(b byte) bool {
	return b >= 'a' && b <= 'z'
}

func isDigit(b byte) bool {
	return b >= '0' && b <= '9'
}

// Crc: see chapter 2.
func Crc(text string) int64 {
	return CrcMore(0, text) // a register of all ones is the CRC 0 turned
}

// CrcMore: see chapter 2.
func CrcMore(crc int64, text string) int64 {
	if len(text) > MaxBytes || crc < 0 || crc > maxCrc {
		return 0
	}
	register := ^uint32(crc)
	for i := 0; i < len(text); i++ {
		register = crcByte(register, text[i])
	}
	return int64(^register)
}

// crcByte puts all eight bits in at once: each meets the register's lowest bit in its own turn.
func crcByte(register uint32, b byte) uint32 {
	register ^= uint32(b)
	for bit := 0; bit < 8; bit++ {
		low := register & 1
		register >>= 1
		if low == 1 {
			register ^= crcTaps
		}
	}
	return register
}

// Seal: see chapter 2.
func Seal(text string) string {
	if len(text) > MaxBytes-sumBytes {
		return ""
	}
	return joined(text, sumOf(text))
}

// sumOf is what a seal puts behind its text.
func sumOf(text string) string {
	crc := uint32(Crc(text))
	row := []byte{byte(crc), byte(crc >> 8), byte(crc >> 16), byte(crc >> 24)}
	return string(row)
}

// Unseal: see chapter 2.
func Unseal(text string) TextOut {
	if len(text) > MaxBytes {
		return TextOut{Code: ErrSize}
	}
	if len(text) < sumBytes {
		return TextOut{Code: ErrShort}
	}
	end := len(text) - sumBytes
	if sumOf(text[:end]) != text[end:] {
		return TextOut{Code: ErrSum}
	}
	return TextOut{Text: joined(text[:end], ""), Code: OK}
}
