package impl

import (
	"errors"
	"strconv"
)

// Constants, see chapter 1.
const (
	OK        = 0
	ErrForm   = 1
	ErrSize   = 2
	ErrSyntax = 3
	ErrShort  = 4
	ErrSum    = 5
	ErrNone   = 6
	ErrThere  = 7
	ErrRange  = 8
	ErrFull   = 9
	ErrState  = 10
	ErrDenied = 11
	ErrOld    = 12
	MaxBytes  = 8000
	MaxList   = 400
	MaxTime   = 1000000
)

// NumOut is a thing of chapter 2.
type NumOut struct {
	N    int64
	At   int64
	Code int64
}

// TextOut is a thing of chapter 2.
type TextOut struct {
	Text string
	At   int64
	Code int64
}

// lastPlace is the place of a number's tenth byte, behind which none may stand.
const lastPlace = 9

// sumBytes is how many bytes of a sealed text are its CRC.
const sumBytes = 4

// crcTurn is the polynomial of the CRC, its lowest bit first.
const crcTurn = 0xEDB88320

// byteFault is why bytes are refused: an error that carries the code to be told.
type byteFault struct {
	code int64
}

func (f byteFault) Error() string {
	return "bytes refused with code " + strconv.FormatInt(f.code, 10)
}

// codeOf is OK of no error, so that an answer takes its code from here either way.
func codeOf(err error) int64 {
	var fault byteFault
	if errors.As(err, &fault) {
		return fault.code
	}
	return OK
}

// joined is always new memory, also of one part alone: a piece of an argument must not be handed back.
func joined(parts ...string) string {
	size := 0
	for _, part := range parts {
		size += len(part)
	}
	out := make([]byte, size)
	at := 0
	for _, part := range parts {
		at += copy(out[at:], part)
	}
	return string(out)
}

// folded is 2n, or -2n-1 below 0: numbers near 0 get few bytes, whatever their sign.
func folded(n int64) uint64 {
	u := uint64(n) << 1
	if n < 0 {
		return ^u
	}
	return u
}

func unfolded(u uint64) int64 {
	n := int64(u >> 1)
	if u&1 == 1 {
		return ^n
	}
	return n
}

// PutNum: see chapter 2.
func PutNum(n int64) string {
	var out []byte
	u := folded(n)
	for u >= 128 {
		out = append(out, byte(u&127)|128)
		u >>= 7
	}
	return string(append(out, byte(u)))
}

// readNum tells the number at that place and the place behind it.
func readNum(text string, at int64) (int64, int64, error) {
	var u uint64
	var b byte
	var code int64 = ErrForm
	place := int64(0)
	if at < 0 {
		goto wrong
	}
more:
	// Held against what is left, since at and place together may pass the greatest int64.
	if at >= int64(len(text))-place {
		code = ErrShort
		goto wrong
	}
	b = text[at+place]
	u |= uint64(b&127) << (7 * place)
	if b < 128 {
		goto last
	}
	if place == lastPlace {
		code = ErrSyntax
		goto wrong
	}
	place++
	goto more
last:
	// The tenth byte has room for one bit; a last byte 0 behind others was not needed.
	if place == lastPlace && b > 1 || place > 0 && b == 0 {
		code = ErrSyntax
		goto wrong
	}
	return unfolded(u), at + place + 1, nil
wrong:
	return 0, 0, byteFault{code}
}

// GetNum: see chapter 2.
func GetNum(text string, at int64) NumOut {
	if len(text) > MaxBytes {
		return NumOut{Code: ErrSize}
	}
	n, behind, err := readNum(text, at)
	return NumOut{N: n, At: behind, Code: codeOf(err)}
}

// PutText: see chapter 2.
func PutText(t string) string {
	if len(t) > MaxBytes {
		return ""
	}
	return joined(PutNum(int64(len(t))), t)
}

// readText tells the text at that place and the place behind it.
func readText(text string, at int64) (string, int64, error) {
	size, start, err := readNum(text, at)
	if err != nil {
		return "", 0, err
	}
	if size < 0 || size > MaxBytes {
		return "", 0, byteFault{ErrSyntax}
	}
	end := start + size
	if end > int64(len(text)) {
		return "", 0, byteFault{ErrShort}
	}
	return joined(text[start:end]), end, nil
}

// GetText: see chapter 2.
func GetText(text string, at int64) TextOut {
	if len(text) > MaxBytes {
		return TextOut{Code: ErrSize}
	}
	t, behind, err := readText(text, at)
	return TextOut{Text: t, At: behind, Code: codeOf(err)}
}

func isLetter(b byte) bool {
	return b >= 'a' && b <= 'z'
}

func isDigit(b byte) bool {
	return b >= '0' && b <= '9'
}

// NameRight: see chapter 2.
func NameRight(t string) bool {
	if len(t) < 1 || len(t) > 20 || !isLetter(t[0]) {
		return false
	}
	for i := 1; i < len(t); i++ {
		if !isLetter(t[i]) && !isDigit(t[i]) && t[i] != '_' {
			return false
		}
	}
	return true
}

// Crc: see chapter 2.
func Crc(text string) int64 {
	return CrcMore(0, text)
}

// CrcMore: see chapter 2.
func CrcMore(crc int64, text string) int64 {
	if len(text) > MaxBytes || crc < 0 || crc > 0xFFFFFFFF {
		return 0
	}
	register := ^uint32(crc)
	for i := 0; i < len(text); i++ {
		register = crcByte(register, text[i])
	}
	return int64(^register)
}

// crcByte puts a byte's bits in at once, which comes to the same: each is looked at only when it is the lowest.
func crcByte(register uint32, b byte) uint32 {
	register ^= uint32(b)
	for bit := 0; bit < 8; bit++ {
		low := register & 1
		register >>= 1
		if low == 1 {
			register ^= crcTurn
		}
	}
	return register
}

// Seal: see chapter 2.
func Seal(text string) string {
	if len(text) > MaxBytes-sumBytes {
		return ""
	}
	return joined(text, sumOf(text))
}

func sumOf(text string) string {
	crc := Crc(text)
	return string([]byte{byte(crc), byte(crc >> 8), byte(crc >> 16), byte(crc >> 24)})
}

// Unseal: see chapter 2.
func Unseal(text string) TextOut {
	if len(text) > MaxBytes {
		return TextOut{Code: ErrSize}
	}
	if len(text) < sumBytes {
		return TextOut{Code: ErrShort}
	}
	inner := text[:len(text)-sumBytes]
	if text != Seal(inner) {
		return TextOut{Code: ErrSum}
	}
	return TextOut{Text: joined(inner)}
}
