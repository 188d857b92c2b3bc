package parity

// modulus is the polynomial x^8 + x^4 + x^3 + x^2 + 1; elements is how many its remainders are.
const (
	modulus  = 285
	elements = 256
)

func isElement(a int) bool { return a >= 0 && a < elements }

// double is the product with the polynomial x. A byte has no room for x^8: it is lost by the shift, and what the modulus has below it is added in its stead.
func double(a byte) byte {
	if a < elements/2 {
		return a << 1
	}
	return a<<1 ^ modulus%elements
}

func product(a, b byte) byte {
	var sum byte
	for bit := 7; bit >= 0; bit-- {
		sum = double(sum)
		if b>>bit&1 == 1 {
			sum ^= a
		}
	}
	return sum
}

// inverse is the inverse of an element other than 0 (of 0 it is 0). Of each other one the power 255 is 1, so its power 254 is the inverse: that is the product of the powers 2, 4, 8 and on to 128.
func inverse(a byte) byte {
	power, inverted := a, byte(1)
	for range 7 {
		power = product(power, power)
		inverted = product(inverted, power)
	}
	return inverted
}

// multiplesOf are the products of an element and each element, made of one another: for long lists that is much faster than to multiply each time.
func multiplesOf(a byte) [elements]byte {
	var multiples [elements]byte
	for b := 1; b < elements; b++ {
		multiples[b] = double(multiples[b/2])
		if b%2 == 1 {
			multiples[b] ^= a
		}
	}
	return multiples
}

// addMultiple adds to each element of sum the product of factor and the element of list there.
func addMultiple(sum, list []byte, factor byte) {
	// Rows that are solved have many noughts, which need no products.
	if factor == 0 {
		return
	}
	multiples := multiplesOf(factor)
	for k, a := range list {
		sum[k] ^= multiples[a]
	}
}
