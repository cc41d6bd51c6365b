// Package octet has bytes as numbers, and turns words.
package octet

// wordBytes is the most bytes that a number is made of.
const wordBytes = 8

// Left turns a word to the left.
func Left(x uint32, n int) uint32 {
	// The low five bits of a negative number are its remainder from 0 to 31 too.
	k := uint(n) & 31
	return x<<k | x>>(32-k)
}

// PutBig tells a number's bytes, the highest first.
func PutBig(v uint64, n int) string {
	if !isWidth(n) {
		return ""
	}
	b := make([]byte, n)
	for i := range b {
		b[n-1-i] = byteAt(v, i)
	}
	return string(b)
}

// Big tells the number of bytes.
func Big(b string) uint64 {
	if len(b) > wordBytes {
		b = b[len(b)-wordBytes:]
	}
	var v uint64
	for i := 0; i < len(b); i++ {
		v = v<<8 | uint64(b[i])
	}
	return v
}

// PutLittle tells a number's bytes, the lowest first.
func PutLittle(v uint64, n int) string {
	if !isWidth(n) {
		return ""
	}
	b := make([]byte, n)
	for i := range b {
		b[i] = byteAt(v, i)
	}
	return string(b)
}

// Little tells the number of bytes.
func Little(b string) uint64 {
	if len(b) > wordBytes {
		b = b[:wordBytes]
	}
	var v uint64
	for i := len(b) - 1; i >= 0; i-- {
		v = v<<8 | uint64(b[i])
	}
	return v
}

// Xor tells the exclusive or of two texts.
func Xor(a, b string) string {
	out := make([]byte, min(len(a), len(b)))
	for i := range out {
		out[i] = a[i] ^ b[i]
	}
	return string(out)
}

// Hex tells bytes as digits.
func Hex(b string) string {
	out := make([]byte, 0, 2*len(b))
	for i := 0; i < len(b); i++ {
		out = append(out, digit(b[i]>>4), digit(b[i]&15))
	}
	return string(out)
}

// Unhex tells them back.
func Unhex(s string) (string, bool) {
	if len(s)%2 != 0 {
		return "", false
	}
	out := make([]byte, len(s)/2)
	for i := range out {
		high, isHigh := digitValue(s[2*i])
		low, isLow := digitValue(s[2*i+1])
		if !isHigh || !isLow {
			return "", false
		}
		out[i] = high<<4 | low
	}
	return string(out), true
}

// isWidth tells whether a number may be put into n bytes.
func isWidth(n int) bool { return n >= 1 && n <= wordBytes }

// byteAt tells a byte of a number; the lowest is at 0.
func byteAt(v uint64, i int) byte { return byte(v >> (8 * uint(i))) }

// digit tells the digit of a number from 0 to 15.
func digit(v byte) byte {
	if v < 10 {
		return '0' + v
	}
	return 'a' + v - 10
}

// digitValue tells the number of a digit, and whether it is one.
func digitValue(c byte) (byte, bool) {
	switch {
	case c >= '0' && c <= '9':
		return c - '0', true
	case c >= 'a' && c <= 'f':
		return c - 'a' + 10, true
	}
	return 0, false
}
