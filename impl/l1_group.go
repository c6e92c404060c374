package impl

// Group is the prime number of elements of the group, 0 included, which is not an element that is used.
const Group = 997

// Base is the element from which public keys are made.
const Base = 5

// groupElement is a secret, an element, a shared key or a factor: they share one range and multiply alike.
type groupElement int

func (e groupElement) inRange() bool {
	return e >= 1 && e <= Group-1
}

// times checks both numbers before it multiplies, since a product of large ones may overflow.
func (e groupElement) times(other groupElement) groupElement {
	if !e.inRange() || !other.inRange() {
		return 0
	}
	return e * other % Group
}

// factor keeps different keys apart because 7 and Group-1 have no common divisor.
func (e groupElement) factor() groupElement {
	if !e.inRange() {
		return 0
	}
	return 1 + (7*e+3)%(Group-1)
}

// signedWith reports whether a signature is the product of an element and the secret of a public key. Products of
// numbers that are out of range are 0 and would be equal.
func (e groupElement) signedWith(public int, sign int) bool {
	product := groupElement(sign).times(Base)
	return product != 0 && product == groupElement(public).times(e)
}

// PublicOf returns the public key of a secret.
func PublicOf(secret int) int {
	return int(groupElement(secret).times(Base))
}

// SharedOf returns the key that the owner of a secret shares with that of an element.
func SharedOf(secret int, element int) int {
	return int(groupElement(secret).times(groupElement(element)))
}

// FactorOf returns the factor by which an element is changed behind a shared key.
func FactorOf(shared int) int {
	return int(groupElement(shared).factor())
}

// BlindOf returns an element changed by a factor.
func BlindOf(element int, factor int) int {
	return int(groupElement(element).times(groupElement(factor)))
}
