package decimal

import "gabarit/api"

// Add returns the sum.
func Add(a, b api.Decimal) (api.Decimal, api.Errno) { return sum(a, b, b.Neg) }

// Sub returns the difference.
func Sub(a, b api.Decimal) (api.Decimal, api.Errno) { return sum(a, b, !b.Neg) }

// sum returns a plus b, where b counts as negative if neg.
func sum(a, b api.Decimal, neg bool) (api.Decimal, api.Errno) {
	if !valid(a, b) {
		return api.Decimal{}, api.ErrArg
	}
	x, y, scale := aligned(a, b)
	switch {
	case a.Neg == neg:
		return made(neg, x.plus(y).digits(), scale)
	case x.compare(y) < 0:
		return made(neg, y.minus(x).digits(), scale)
	}
	return made(a.Neg, x.minus(y).digits(), scale)
}

// Mul returns the product.
func Mul(a, b api.Decimal) (api.Decimal, api.Errno) {
	if !valid(a, b) {
		return api.Decimal{}, api.ErrArg
	}
	product := numberOf(a.Digits).times(numberOf(b.Digits))
	return made(a.Neg != b.Neg, product.digits(), a.Scale+b.Scale)
}

// Div returns the quotient, rounded towards zero.
func Div(a, b api.Decimal, scale int) (api.Decimal, api.Errno) {
	if !valid(a, b) || b.Digits == "0" || !isScale(scale) {
		return api.Decimal{}, api.ErrArg
	}
	x, y := numberOf(a.Digits), numberOf(b.Digits)
	if more := scale + b.Scale - a.Scale; more > 0 {
		x = x.times(power(more))
	} else {
		y = y.times(power(-more))
	}
	quotient, _ := x.over(y)
	return made(a.Neg != b.Neg, quotient.digits(), scale)
}

// Neg returns the opposite.
func Neg(a api.Decimal) (api.Decimal, api.Errno) {
	if !valid(a) {
		return api.Decimal{}, api.ErrArg
	}
	return made(!a.Neg, a.Digits, a.Scale)
}

// Cmp returns -1, 0 or 1 if a is less than b, equal, greater.
func Cmp(a, b api.Decimal) (int, api.Errno) {
	if !valid(a, b) {
		return 0, api.ErrArg
	}
	x, y, _ := aligned(a, b)
	switch {
	case a.Neg && b.Neg:
		return y.compare(x), api.OK
	case a.Neg:
		return -1, api.OK
	case b.Neg:
		return 1, api.OK
	}
	return x.compare(y), api.OK
}

// Round returns a, rounded to nearest.
func Round(a api.Decimal, scale int) (api.Decimal, api.Errno) {
	if !valid(a) || !isScale(scale) {
		return api.Decimal{}, api.ErrArg
	}
	if scale >= a.Scale {
		return a, api.OK
	}
	unit := power(a.Scale - scale)
	rounded, left := numberOf(a.Digits).over(unit)
	half := left.plus(left).compare(unit)
	if half > 0 || half == 0 && rounded[0]%2 == 1 {
		rounded = rounded.plus(number{1})
	}
	return made(a.Neg, rounded.digits(), scale)
}

// aligned returns the numbers of a and b without their signs, times 10 as often as the greater one of their scales says.
func aligned(a, b api.Decimal) (x, y number, scale int) {
	scale = max(a.Scale, b.Scale)
	x = numberOf(a.Digits).times(power(scale - a.Scale))
	y = numberOf(b.Digits).times(power(scale - b.Scale))
	return x, y, scale
}
