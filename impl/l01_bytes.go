package impl

import (
	"errors"
	"strconv"
)

// Constants, see chapter 1.
const (
	OK        = 0
	ErrForm   = 1
	ErrSize   = 2
	ErrSyntax = 3
	ErrShort  = 4
	ErrSum    = 5
	ErrNone   = 6
	ErrThere  = 7
	ErrRange  = 8
	ErrFull   = 9
	ErrState  = 10
	ErrDenied = 11
	MaxBytes  = 8000
	MaxList   = 400
	MaxTime   = 1000000
)

const (
	maxName  = 20
	sumBytes = 4
	allOnes  = 1<<32 - 1
	crcPoly  = 0xEDB88320
)

// NumOut is a thing of chapter 2.
type NumOut struct {
	N    int64
	At   int64
	Code int64
}

// TextOut is a thing of chapter 2.
type TextOut struct {
	Text string
	At   int64
	Code int64
}

// readFault carries the code through the readers, up to the face that tells it.
type readFault struct {
	code int64
}

func (f *readFault) Error() string {
	return "can not be read: code " + strconv.FormatInt(f.code, 10)
}

func codeOf(err error) int64 {
	var f *readFault
	if errors.As(err, &f) {
		return f.code
	}
	return OK
}

// joined copies also where there is one part only: an answer shares no memory with an argument.
func joined(parts ...string) string {
	size := 0
	for _, p := range parts {
		size += len(p)
	}
	out := make([]byte, size)
	at := 0
	for _, p := range parts {
		at += copy(out[at:], p)
	}
	return string(out)
}

// folded steps towards 0 ahead of doubling, as the least int64 has no opposite.
func folded(n int64) uint64 {
	if n < 0 {
		return 2*uint64(-(n+1)) + 1
	}
	return 2 * uint64(n)
}

func unfolded(u uint64) int64 {
	half := int64(u / 2)
	if u%2 == 1 {
		return -half - 1
	}
	return half
}

// PutNum: see chapter 2.
func PutNum(n int64) string {
	var out []byte
	u := folded(n)
	for u >= 128 {
		out = append(out, byte(u%128)+128)
		u /= 128
	}
	return string(append(out, byte(u)))
}

// GetNum: see chapter 2.
func GetNum(text string, at int64) NumOut {
	n, next, err := readNum(text, at)
	if err != nil {
		return NumOut{Code: codeOf(err)}
	}
	return NumOut{N: n, At: next}
}

func readNum(text string, at int64) (int64, int64, error) {
	if len(text) > MaxBytes {
		return 0, 0, &readFault{ErrSize}
	}
	if at < 0 {
		return 0, 0, &readFault{ErrForm}
	}
	u := uint64(0)
	shift := uint(0)
	b := byte(0)
	code := int64(ErrShort)
more:
	if at >= int64(len(text)) {
		goto wrong
	}
	b = text[at]
	at++
	// Nine bytes hold 63 bits: the tenth one has but one left.
	if shift == 63 && b > 1 {
		code = ErrSyntax
		goto wrong
	}
	u |= uint64(b%128) << shift
	if b < 128 {
		goto last
	}
	shift += 7
	goto more
last:
	// A last byte of 0 adds nothing: the number could do without it.
	if b == 0 && shift > 0 {
		code = ErrSyntax
		goto wrong
	}
	return unfolded(u), at, nil
wrong:
	return 0, 0, &readFault{code}
}

// PutText: see chapter 2.
func PutText(t string) string {
	if len(t) > MaxBytes {
		return ""
	}
	return joined(PutNum(int64(len(t))), t)
}

// GetText: see chapter 2.
func GetText(text string, at int64) TextOut {
	t, next, err := readText(text, at)
	if err != nil {
		return TextOut{Code: codeOf(err)}
	}
	return TextOut{Text: t, At: next}
}

func readText(text string, at int64) (string, int64, error) {
	size, from, err := readNum(text, at)
	if err != nil {
		return "", 0, err
	}
	if size < 0 || size > MaxBytes {
		return "", 0, &readFault{ErrSyntax}
	}
	to := from + size
	if to > int64(len(text)) {
		return "", 0, &readFault{ErrShort}
	}
	return joined(text[from:to]), to, nil
}

// reader goes through a text; behind the first fault it reads nothing but zeros.
type reader struct {
	text string
	at   int64
	err  error
}

func (r *reader) num() int64 {
	if r.err != nil {
		return 0
	}
	n, next, err := readNum(r.text, r.at)
	r.at, r.err = next, err
	return n
}

func (r *reader) word() string {
	if r.err != nil {
		return ""
	}
	t, next, err := readText(r.text, r.at)
	r.at, r.err = next, err
	return t
}

// NameRight: see chapter 2.
func NameRight(t string) bool {
	if len(t) < 1 || len(t) > maxName || !isLetter(t[0]) {
		return false
	}
	for i := 1; i < len(t); i++ {
		if !isLetter(t[i]) && !isDigit(t[i]) && t[i] != '_' {
			return false
		}
	}
	return true
}

func isLetter(b byte) bool {
	return b >= 'a' && b <= 'z'
}

func isDigit(b byte) bool {
	return b >= '0' && b <= '9'
}

// Crc: see chapter 2.
func Crc(text string) int64 {
	// No text at all has the CRC 0, so any text goes on from there.
	return CrcMore(0, text)
}

// CrcMore: see chapter 2.
func CrcMore(crc int64, text string) int64 {
	if len(text) > MaxBytes || crc < 0 || crc > allOnes {
		return 0
	}
	// Turning all bits again gives back the register that the CRC was told of.
	register := uint32(crc) ^ allOnes
	for i := 0; i < len(text); i++ {
		register = crcStep(register, text[i])
	}
	return int64(register ^ allOnes)
}

func crcStep(register uint32, b byte) uint32 {
	// A byte's bits meet the register's lowest bit one by one: all eight may be put in at once.
	register ^= uint32(b)
	for range 8 {
		low := register & 1
		register >>= 1
		if low == 1 {
			register ^= crcPoly
		}
	}
	return register
}

// Seal: see chapter 2.
func Seal(text string) string {
	if len(text) > MaxBytes-sumBytes {
		return ""
	}
	return joined(text, sumText(Crc(text)))
}

func sumText(crc int64) string {
	out := make([]byte, sumBytes)
	for i := range out {
		out[i] = byte(crc % 256)
		crc /= 256
	}
	return string(out)
}

// Unseal: see chapter 2.
func Unseal(text string) TextOut {
	if len(text) > MaxBytes {
		return TextOut{Code: ErrSize}
	}
	if len(text) < sumBytes {
		return TextOut{Code: ErrShort}
	}
	body := text[:len(text)-sumBytes]
	if Seal(body) != text {
		return TextOut{Code: ErrSum}
	}
	return TextOut{Text: joined(body)}
}
