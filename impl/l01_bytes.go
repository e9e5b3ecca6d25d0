package impl

import (
	"errors"
	"strconv"
	"strings"
)

// Constants, see chapter 1.
const (
	OK         = 0
	ErrForm    = 1
	ErrSize    = 2
	ErrSyntax  = 3
	ErrShort   = 4
	ErrSum     = 5
	ErrSign    = 6
	ErrVersion = 7
	ErrExpired = 8
	ErrNone    = 9
	ErrProof   = 10
	ErrPolicy  = 11
	ErrFull    = 12
	ErrPower   = 13
	ErrFork    = 14
	MaxBytes   = 20000
	MaxList    = 400
	MaxTime    = 1000000000
)

const (
	maxNumBytes  = 10 // 64 bits, seven a byte
	maxNameBytes = 40
	hexDigits    = "0123456789abcdef"
)

// NumOut is a thing of chapter 2.
type NumOut struct {
	N    int64
	At   int64
	Code int64
}

// TextOut is a thing of chapter 2.
type TextOut struct {
	Text string
	At   int64
	Code int64
}

// bytesFault carries a code through the readers up to the faces.
type bytesFault struct {
	code int64
}

func (f bytesFault) Error() string {
	return "bytes: code " + strconv.FormatInt(f.code, 10)
}

func faultCode(err error) int64 {
	var f bytesFault
	if errors.As(err, &f) {
		return f.code
	}
	return OK
}

// PutNum: see chapter 2.
func PutNum(n int64) string {
	out := make([]byte, 0, maxNumBytes)
	u := foldSign(n)
	for u >= 128 {
		out = append(out, byte(u%128)+128)
		u /= 128
	}
	return string(append(out, byte(u)))
}

// GetNum: see chapter 2.
func GetNum(text string, at int64) NumOut {
	n, behind, err := readNum(text, at)
	if err != nil {
		return NumOut{Code: faultCode(err)}
	}
	return NumOut{N: n, At: behind}
}

// PutText: see chapter 2.
func PutText(t string) string {
	if len(t) > MaxBytes {
		return ""
	}
	return PutNum(int64(len(t))) + t
}

// GetText: see chapter 2.
func GetText(text string, at int64) TextOut {
	t, behind, err := readText(text, at)
	if err != nil {
		return TextOut{Code: faultCode(err)}
	}
	return TextOut{Text: t, At: behind}
}

// NameRight: see chapter 2.
func NameRight(t string) bool {
	if len(t) < 1 || len(t) > maxNameBytes || !isLetter(t[0]) {
		return false
	}
	for i := range len(t) {
		if !isLetter(t[i]) && !isDigit(t[i]) && t[i] != '-' {
			return false
		}
	}
	return true
}

// Hex: see chapter 2.
func Hex(t string) string {
	if len(t) > MaxBytes {
		return ""
	}
	out := make([]byte, 2*len(t))
	for i := range len(t) {
		pair := [2]byte{hexDigits[t[i]/16], hexDigits[t[i]%16]}
		copy(out[2*i:], pair[:])
	}
	return string(out)
}

// HexRead: see chapter 2.
func HexRead(t string) TextOut {
	text, err := readHex(t)
	if err != nil {
		return TextOut{Code: faultCode(err)}
	}
	return TextOut{Text: text}
}

// foldSign works on n and 1 together, since the least number has no positive twin.
func foldSign(n int64) uint64 {
	if n >= 0 {
		return 2 * uint64(n)
	}
	return 2*uint64(-(n+1)) + 1
}

func unfoldSign(u uint64) int64 {
	half := int64(u / 2)
	if u%2 == 0 {
		return half
	}
	return -half - 1
}

func checkPlace(text string, at int64) error {
	if len(text) > MaxBytes {
		return bytesFault{ErrSize}
	}
	if at < 0 {
		return bytesFault{ErrForm}
	}
	return nil
}

// readNum tells the number at a place, and the place behind it.
func readNum(text string, at int64) (int64, int64, error) {
	var u uint64
	var b byte
	behind, code := at, int64(ErrShort)
	if err := checkPlace(text, at); err != nil {
		return 0, 0, err
	}
more:
	if behind >= int64(len(text)) {
		goto wrong
	}
	b = text[behind]
	behind++
	if b < 128 || behind-at == maxNumBytes {
		goto last
	}
	u += uint64(b-128) << (7 * (behind - at - 1))
	goto more
last:
	if !lastByteRight(b, behind-at) {
		code = ErrSyntax
		goto wrong
	}
	u += uint64(b) << (7 * (behind - at - 1))
	return unfoldSign(u), behind, nil
wrong:
	return 0, 0, bytesFault{code}
}

// lastByteRight refuses what does not fit into 64 bits, and a last byte that adds nothing.
func lastByteRight(b byte, count int64) bool {
	if count == maxNumBytes && b > 1 {
		return false
	}
	return count == 1 || b != 0
}

// readText tells the text at a place, and the place behind it.
func readText(text string, at int64) (string, int64, error) {
	size, from, err := readNum(text, at)
	if err != nil {
		return "", 0, err
	}
	if size < 0 || size > MaxBytes {
		return "", 0, bytesFault{ErrSyntax}
	}
	if size > int64(len(text))-from {
		return "", 0, bytesFault{ErrShort}
	}
	return ownText(text[from : from+size]), from + size, nil
}

// ownText takes a copy, since an answer shares no memory with an argument.
func ownText(t string) string {
	return string([]byte(t))
}

func readHex(t string) (string, error) {
	if len(t) > MaxBytes {
		return "", bytesFault{ErrSize}
	}
	if len(t)%2 != 0 {
		return "", bytesFault{ErrSyntax}
	}
	out := make([]byte, len(t)/2)
	for i := range out {
		high := strings.IndexByte(hexDigits, t[2*i])
		low := strings.IndexByte(hexDigits, t[2*i+1])
		if high < 0 || low < 0 {
			return "", bytesFault{ErrSyntax}
		}
		out[i] = byte(16*high + low)
	}
	return string(out), nil
}

// timeRight: is it a time?
func timeRight(n int64) bool {
	return 0 <= n && n <= MaxTime
}

func isLetter(b byte) bool {
	return 'a' <= b && b <= 'z'
}

func isDigit(b byte) bool {
	return '0' <= b && b <= '9'
}
