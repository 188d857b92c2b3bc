package hash

import "strongbox/api"

const hexSigns = "0123456789abcdef"

// Hex tells bytes by digits and letters.
func Hex(s string) string {
	signs := make([]byte, 0, 2*len(s))
	for i := range len(s) {
		signs = append(signs, hexSigns[s[i]>>4], hexSigns[s[i]&15])
	}
	return string(signs)
}

// Unhex reads them.
func Unhex(s string) (string, api.Errno) {
	if len(s)%2 != 0 {
		return "", api.ErrHashHex
	}
	read := make([]byte, 0, len(s)/2)
	for i := 0; i < len(s); i += 2 {
		high, isHigh := signValue(s[i])
		low, isLow := signValue(s[i+1])
		if !isHigh || !isLow {
			return "", api.ErrHashHex
		}
		read = append(read, high<<4|low)
	}
	return string(read), api.OK
}

// signValue is the number from 0 to 15 that a sign stands for, and whether it is a sign at all.
func signValue(sign byte) (byte, bool) {
	switch {
	case '0' <= sign && sign <= '9':
		return sign - '0', true
	case 'a' <= sign && sign <= 'f':
		return sign - 'a' + 10, true
	}
	return 0, false
}
