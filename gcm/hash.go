package gcm

// hashOf is the hash of ad and text by h, which is the chapter's H.
func hashOf(h element, ad, text []byte) element {
	sizes := element{8 * uint64(len(ad)), 8 * uint64(len(text))}
	y := hashOn(element{}, h, ad)
	y = hashOn(y, h, text)
	return y.plus(sizes).times(h)
}

// hashOn is what y becomes by b, cut into long elements, the last of them filled up with bytes 0.
func hashOn(y, h element, b []byte) element {
	for len(b) > 0 {
		var x [16]byte
		b = b[copy(x[:], b):]
		y = y.plus(elementOf(x)).times(h)
	}
	return y
}
