// Package sum: the sum of the net, and numbers as bytes, the highest first.
package sum

const (
	word     = 0xffff // the sixteen bits of a word
	bigBytes = 8      // bytes of an int
	numBytes = 7      // the most bytes whose number is never below 0
)

// Of is the sum of parts, one behind the other.
func Of(parts ...string) int {
	total := 0
	// A part may end within a word: which half a byte stands in hangs on all the bytes ahead of it, not on its place in its part.
	shift := 8
	for _, part := range parts {
		for i := 0; i < len(part); i++ {
			total += int(part[i]) << shift
			shift = 8 - shift
		}
	}
	return fold(total) ^ word
}

// Add adds two of sixteen bits.
func Add(a, b int) int {
	return fold(a&word + b&word)
}

// fold adds what is above sixteen bits below, until there is none; v is not below 0.
func fold(v int) int {
	for v > word {
		v = v>>16 + v&word
	}
	return v
}

// Big is a number's lowest bytes, the highest first.
func Big(v, n int) string {
	b := make([]byte, max(0, min(n, bigBytes)))
	for i := len(b) - 1; i >= 0; i-- {
		b[i] = byte(v)
		v >>= 8
	}
	return string(b)
}

// Num is the number of bytes, the highest first.
func Num(s string) int {
	if len(s) > numBytes {
		s = s[len(s)-numBytes:]
	}
	v := 0
	for i := 0; i < len(s); i++ {
		v = v<<8 | int(s[i])
	}
	return v
}
