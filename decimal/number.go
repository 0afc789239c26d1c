package decimal

import (
	"cmp"
	"sort"

	"gabarit/api"
)

// A part of a number has perPart digits, so that it is below base. There are enough parts for what Div divides, which has at most 3 times as many digits as a decimal.
const (
	perPart = 9
	base    = 1000000000
	parts   = (3*api.MaxDigits + perPart - 1) / perPart
)

// number is a whole number from 0 on: nine digits in each part, the last ones first.
type number [parts]int64

// numberOf returns the number that these digits write.
func numberOf(digits string) number {
	var x number
	for i := range len(digits) {
		part := &x[(len(digits)-1-i)/perPart]
		*part = *part*10 + int64(digits[i]-'0')
	}
	return x
}

// power returns 10, n times.
func power(n int) number {
	var x number
	x[n/perPart] = 1
	for range n % perPart {
		x[n/perPart] *= 10
	}
	return x
}

// digits returns all digits of x, with zeros in front.
func (x number) digits() string {
	var text [parts * perPart]byte
	for i := range text {
		part := &x[i/perPart]
		text[len(text)-1-i] = '0' + byte(*part%10)
		*part /= 10
	}
	return string(text[:])
}

// carrier returns a closure that is handed what the parts of a result would be, the last one first: it leaves each of them nine digits, and adds the rest, which may be below 0, to the next one.
func carrier() func(part int64) int64 {
	carry := int64(0)
	return func(part int64) int64 {
		part += carry
		carry = part / base
		if part%base < 0 {
			carry--
		}
		return part - carry*base
	}
}

// plus returns the sum.
func (x number) plus(y number) number {
	carried := carrier()
	for i := range parts {
		x[i] = carried(x[i] + y[i])
	}
	return x
}

// minus returns the difference; y is not greater than x.
func (x number) minus(y number) number {
	carried := carrier()
	for i := range parts {
		x[i] = carried(x[i] - y[i])
	}
	return x
}

// times returns the product, which has no more digits than the parts hold.
func (x number) times(y number) number {
	var product number
	for i, part := range x {
		if part == 0 {
			continue
		}
		carried := carrier()
		for k := i; k < parts; k++ {
			product[k] = carried(product[k] + part*y[k-i])
		}
	}
	return product
}

// over returns the whole part of the quotient, and what is left; y is not 0, and has at least nine digits less than the parts hold.
func (x number) over(y number) (quotient, left number) {
	for i := parts - 1; i >= 0; i-- {
		left = power(perPart).times(left).plus(number{x[i]})
		quotient[i] = int64(sort.Search(base, func(n int) bool {
			return left.compare(number{int64(n) + 1}.times(y)) < 0
		}))
		left = left.minus(number{quotient[i]}.times(y))
	}
	return quotient, left
}

// compare returns -1, 0 or 1 if x is less than y, equal, greater.
func (x number) compare(y number) int {
	for i := parts - 1; i >= 0; i-- {
		if x[i] != y[i] {
			return cmp.Compare(x[i], y[i])
		}
	}
	return 0
}
