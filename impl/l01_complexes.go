package impl

import (
	"slices"
	"strconv"
	"strings"
)

// Error codes of all chapters.
const (
	ErrNone = iota
	ErrInvalid
	ErrRange
	ErrLimit
	ErrNotFound
	ErrState
	ErrSyntax
)

// Limits of chapter 1.
const (
	MaxTop  = 5
	MaxDim  = 8
	MaxRows = 40
)

// Complex is described in chapter 1.
type Complex struct {
	Prime int64
	Dims  []int64
	Maps  [][][]int64
}

// vector is a list of at most MaxRows numbers modulo a prime, with 0 behind its last one. It is an
// array so that vectors can be compared by == and be keys of maps.
type vector [MaxRows]int64

// IsComplex reports whether x is a complex.
func IsComplex(x Complex) bool {
	return isPrime(x.Prime) && hasSizes(x, MaxDim, 0, x.Prime-1) && squaresToZero(x)
}

// DifferentialOf returns the differential of a vector v of the degree n, in 0..top, and ErrNone.
func DifferentialOf(x Complex, n int64, v []int64) ([]int64, int64) {
	if !IsComplex(x) {
		return nil, ErrInvalid
	}
	if !isVector(x, n, v) {
		return nil, ErrRange
	}
	if n == 0 {
		return nil, ErrNone
	}
	return applyTable(x.Prime, v, x.Maps[n-1], x.Dims[n-1]), ErrNone
}

// CyclesOf returns the reduced list of the cycles of the degree n, in 0..top, and ErrNone.
func CyclesOf(x Complex, n int64) ([][]int64, int64) {
	return spaceAt(x, n, cycleSpace)
}

// BoundariesOf returns the reduced list of the boundaries of the degree n, in 0..top, and ErrNone.
func BoundariesOf(x Complex, n int64) ([][]int64, int64) {
	return spaceAt(x, n, boundarySpace)
}

// HomologyNumbers returns the homology numbers of the degrees 0 to top, and ErrNone.
func HomologyNumbers(x Complex) ([]int64, int64) {
	if !IsComplex(x) {
		return nil, ErrInvalid
	}
	return homologyNumbers(x), ErrNone
}

// HomologyList returns the homology list of the degree n, in 0..top, and ErrNone.
func HomologyList(x Complex, n int64) ([][]int64, int64) {
	return spaceAt(x, n, homologySpace)
}

// IsExactAt reports whether x is exact at the degree n, in 0..top, and returns ErrNone.
func IsExactAt(x Complex, n int64) (bool, int64) {
	if code := checkDegree(x, n); code != ErrNone {
		return false, code
	}
	return homologyNumber(x, n) == 0, ErrNone
}

// EulerNumber returns the Euler number, and ErrNone.
func EulerNumber(x Complex) (int64, int64) {
	if !IsComplex(x) {
		return 0, ErrInvalid
	}
	euler := int64(0)
	for n, dim := range x.Dims {
		if n%2 == 0 {
			euler += dim
		} else {
			euler -= dim
		}
	}
	return euler, ErrNone
}

// AddComplexes returns the sum, and ErrNone. Errors: ErrRange if the primes are different;
// ErrLimit if a dimension would be greater than MaxDim.
func AddComplexes(x Complex, y Complex) (Complex, int64) {
	if code := checkPrimes(x, y); code != ErrNone {
		return Complex{}, code
	}
	top := max(topOf(x), topOf(y))
	sum := Complex{Prime: x.Prime, Dims: make([]int64, top+1), Maps: make([][][]int64, top)}
	for n := range top + 1 {
		sum.Dims[n] = dimAt(x, n) + dimAt(y, n)
		if sum.Dims[n] > MaxDim {
			return Complex{}, ErrLimit
		}
	}
	for k := range top {
		sum.Maps[k] = sumTable(mapAt(x, k), dimAt(x, k), mapAt(y, k), dimAt(y, k))
	}
	return sum, ErrNone
}

// ShiftComplex returns the shift by k in 0..MaxTop, and ErrNone. Errors: ErrLimit if its top would
// be greater than MaxTop.
func ShiftComplex(x Complex, k int64) (Complex, int64) {
	if !IsComplex(x) {
		return Complex{}, ErrInvalid
	}
	if !isWithin(k, 0, MaxTop) {
		return Complex{}, ErrRange
	}
	top := topOf(x) + k
	if top > MaxTop {
		return Complex{}, ErrLimit
	}
	shifted := Complex{Prime: x.Prime, Dims: make([]int64, top+1), Maps: make([][][]int64, top)}
	copy(shifted.Dims[k:], x.Dims)
	for j := range top {
		if j < k {
			shifted.Maps[j] = zeroTable(shifted.Dims[j+1], shifted.Dims[j])
		} else {
			shifted.Maps[j] = scaledTable(x.Prime, signNumber(x.Prime, k), x.Maps[j-k])
		}
	}
	return shifted, ErrNone
}

// DualComplex returns the dual, and ErrNone.
func DualComplex(x Complex) (Complex, int64) {
	if !IsComplex(x) {
		return Complex{}, ErrInvalid
	}
	return dualComplex(x), ErrNone
}

// ReduceRows returns the reduced list of the space of the sums of multiples of at most MaxRows
// rows of n numbers modulo a prime p, n in 0..MaxRows, and ErrNone. (ErrInvalid is not returned;
// ErrRange also if p is no prime.)
func ReduceRows(p int64, n int64, rows [][]int64) ([][]int64, int64) {
	if !areSpaceRows(p, n, rows) {
		return nil, ErrRange
	}
	return rowsOf(reducedList(p, vectorsOf(rows)), n), ErrNone
}

// SumOfSpaces returns the reduced list of the least space with all rows of a and b, lists as for
// ReduceRows, and ErrNone. (ErrInvalid is not returned; ErrRange also if p is no prime.)
func SumOfSpaces(p int64, n int64, a [][]int64, b [][]int64) ([][]int64, int64) {
	if !areSpaceRows(p, n, a) || !areSpaceRows(p, n, b) {
		return nil, ErrRange
	}
	return rowsOf(sumSpace(p, vectorsOf(a), vectorsOf(b)), n), ErrNone
}

// MeetOfSpaces returns the reduced list of the vectors that are sums of multiples of the rows of
// a, and of those of b, lists as for ReduceRows, and ErrNone. (ErrInvalid is not returned;
// ErrRange also if p is no prime.)
func MeetOfSpaces(p int64, n int64, a [][]int64, b [][]int64) ([][]int64, int64) {
	if !areSpaceRows(p, n, a) || !areSpaceRows(p, n, b) {
		return nil, ErrRange
	}
	return rowsOf(meetSpace(p, n, vectorsOf(a), vectorsOf(b)), n), ErrNone
}

// ComplexText returns the text of x, and ErrNone.
func ComplexText(x Complex) (string, int64) {
	if !IsComplex(x) {
		return "", ErrInvalid
	}
	maps := make([]string, len(x.Maps))
	for k, table := range x.Maps {
		maps[k] = tableText(table)
	}
	prime := strconv.FormatInt(x.Prime, 10)
	return prime + ":" + joinedNumbers(x.Dims, ",") + ":" + strings.Join(maps, ";"), ErrNone
}

// ParseComplex returns the complex with a text, and ErrNone. Errors: ErrSyntax if there is none.
// (No other errors are returned.)
func ParseComplex(text string) (Complex, int64) {
	x, ok := readComplex(text)
	if !ok || !IsComplex(x) {
		return Complex{}, ErrSyntax
	}
	return x, ErrNone
}

// isPrime reports whether p is one of the primes of chapter 1.
func isPrime(p int64) bool {
	switch p {
	case 2, 3, 5, 7:
		return true
	}
	return false
}

// isWithin reports whether a number is in low..high.
func isWithin(number int64, low int64, high int64) bool {
	return low <= number && number <= high
}

// isRow reports whether a row has n numbers, all modulo p.
func isRow(p int64, row []int64, n int64) bool {
	return int64(len(row)) == n && areWithin(row, 0, p-1)
}

// areWithin reports whether all numbers of a row are in low..high.
func areWithin(row []int64, low int64, high int64) bool {
	for _, number := range row {
		if !isWithin(number, low, high) {
			return false
		}
	}
	return true
}

// isTable reports whether a table has the given number of rows, each of the given number of
// columns, with numbers modulo p.
func isTable(p int64, table [][]int64, rows int64, columns int64) bool {
	return isTableWithin(table, rows, columns, 0, p-1)
}

// isTableWithin reports whether a table has the given number of rows, each of the given number of
// columns, with numbers in low..high.
func isTableWithin(table [][]int64, rows int64, columns int64, low int64, high int64) bool {
	if int64(len(table)) != rows {
		return false
	}
	for _, row := range table {
		if int64(len(row)) != columns || !areWithin(row, low, high) {
			return false
		}
	}
	return true
}

// hasSizes reports whether x has degrees, with dimensions of at most the greatest one, and Maps of
// these sizes with numbers in low..high.
func hasSizes(x Complex, greatest int64, low int64, high int64) bool {
	if !isWithin(topOf(x), 0, MaxTop) || int64(len(x.Maps)) != topOf(x) || !areWithin(x.Dims, 0, greatest) {
		return false
	}
	for k, table := range x.Maps {
		if !isTableWithin(table, x.Dims[k+1], x.Dims[k], low, high) {
			return false
		}
	}
	return true
}

// areSpaceRows reports whether p is a prime and rows are a list that ReduceRows takes.
func areSpaceRows(p int64, n int64, rows [][]int64) bool {
	if !isPrime(p) || !isWithin(n, 0, MaxRows) || len(rows) > MaxRows {
		return false
	}
	return isTable(p, rows, int64(len(rows)), n)
}

// squaresToZero reports whether the differential of each differential is 0, for Maps of the right
// sizes.
func squaresToZero(x Complex) bool {
	for k := 1; k < len(x.Maps); k++ {
		for _, row := range x.Maps[k] {
			twice := applyTable(x.Prime, row, x.Maps[k-1], x.Dims[k-1])
			if vectorOf(twice) != (vector{}) {
				return false
			}
		}
	}
	return true
}

// checkDegree returns the code for a complex x and a degree n of it.
func checkDegree(x Complex, n int64) int64 {
	if !IsComplex(x) {
		return ErrInvalid
	}
	if !isWithin(n, 0, topOf(x)) {
		return ErrRange
	}
	return ErrNone
}

// checkPrimes returns the code for complexes that have to have the same Prime.
func checkPrimes(complexes ...Complex) int64 {
	for _, x := range complexes {
		if !IsComplex(x) {
			return ErrInvalid
		}
	}
	for _, x := range complexes {
		if x.Prime != complexes[0].Prime {
			return ErrRange
		}
	}
	return ErrNone
}

// isVector reports whether n is a degree of x, and v a vector of it.
func isVector(x Complex, n int64, v []int64) bool {
	return isWithin(n, 0, topOf(x)) && isRow(x.Prime, v, x.Dims[n])
}

// topOf returns the greatest degree of x.
func topOf(x Complex) int64 {
	return int64(len(x.Dims)) - 1
}

// exceedsLimits reports whether what is a complex otherwise has too many degrees, or too great a
// dimension.
func exceedsLimits(x Complex) bool {
	return topOf(x) > MaxTop || slices.Max(x.Dims) > MaxDim
}

// dimAt returns the dimension of the degree n, 0 beyond the degrees of x.
func dimAt(x Complex, n int64) int64 {
	if !isWithin(n, 0, topOf(x)) {
		return 0
	}
	return x.Dims[n]
}

// mapAt returns the table from the degree k + 1 to k, one without rows beyond the degrees of x.
func mapAt(x Complex, k int64) [][]int64 {
	if !isWithin(k, 0, topOf(x)-1) {
		return nil
	}
	return x.Maps[k]
}

// differentialTable returns the table of the differential from the degree n, whose rows have no
// numbers in the degree 0.
func differentialTable(x Complex, n int64) [][]int64 {
	if n == 0 {
		return zeroTable(x.Dims[0], 0)
	}
	return x.Maps[n-1]
}

// applyTable returns the sum of the numbers of v times the rows of a table with the given number
// of columns.
func applyTable(p int64, v []int64, table [][]int64, columns int64) []int64 {
	sum := make([]int64, columns)
	for i, factor := range v {
		for j, number := range table[i] {
			sum[j] = (sum[j] + factor*number) % p
		}
	}
	return sum
}

// signNumber returns (-1)^k modulo p.
func signNumber(p int64, k int64) int64 {
	if k%2 == 0 {
		return 1
	}
	return p - 1
}

// zeroTable returns a new table of zeros.
func zeroTable(rows int64, columns int64) [][]int64 {
	table := make([][]int64, rows)
	for i := range table {
		table[i] = make([]int64, columns)
	}
	return table
}

// scaledTable returns a new table with the numbers of a table times a factor, modulo p also if they
// are less than 0.
func scaledTable(p int64, factor int64, table [][]int64) [][]int64 {
	scaled := make([][]int64, len(table))
	for i, row := range table {
		scaled[i] = make([]int64, len(row))
		for j, number := range row {
			scaled[i][j] = (factor*number%p + p) % p
		}
	}
	return scaled
}

// transposedTable returns a new table with the columns of a table as rows. The number of columns
// is told because a table without rows does not show it.
func transposedTable(table [][]int64, columns int64) [][]int64 {
	transposed := zeroTable(columns, int64(len(table)))
	for i, row := range table {
		for j, number := range row {
			transposed[j][i] = number
		}
	}
	return transposed
}

// dualComplex returns the dual of what has the sizes of a complex.
func dualComplex(x Complex) Complex {
	top := topOf(x)
	dual := Complex{Prime: x.Prime, Dims: make([]int64, top+1), Maps: make([][][]int64, top)}
	for n := range top + 1 {
		dual.Dims[n] = x.Dims[top-n]
	}
	for n := range top {
		dual.Maps[n] = transposedTable(x.Maps[top-1-n], x.Dims[top-1-n])
	}
	return dual
}

// sumTable returns a new table with the rows of a, and zeros behind each, and then the rows of b,
// and zeros ahead of each.
func sumTable(a [][]int64, left int64, b [][]int64, right int64) [][]int64 {
	sum := zeroTable(int64(len(a)+len(b)), left+right)
	for i, row := range a {
		copy(sum[i], row)
	}
	for i, row := range b {
		copy(sum[len(a)+i][left:], row)
	}
	return sum
}

// spaceAt returns the rows of a space of the degree n of x.
func spaceAt(x Complex, n int64, space func(Complex, int64) []vector) ([][]int64, int64) {
	if code := checkDegree(x, n); code != ErrNone {
		return nil, code
	}
	return rowsOf(space(x, n), x.Dims[n]), ErrNone
}

// cycleSpace returns the reduced list of the cycles of the degree n.
func cycleSpace(x Complex, n int64) []vector {
	return kernelSpace(x.Prime, differentialTable(x, n), dimAt(x, n-1))
}

// boundarySpace returns the reduced list of the boundaries of the degree n.
func boundarySpace(x Complex, n int64) []vector {
	return reducedList(x.Prime, vectorsOf(mapAt(x, n)))
}

// homologySpace returns the homology list of the degree n. Boundaries are cycles, so the rests of
// the cycles make all cycles with 0 at the leads of the boundaries.
func homologySpace(x Complex, n int64) []vector {
	return spaceOfRests(x.Prime, cycleSpace(x, n), boundarySpace(x, n))
}

// homologyNumber returns the homology number of the degree n.
func homologyNumber(x Complex, n int64) int64 {
	return int64(len(cycleSpace(x, n)) - len(boundarySpace(x, n)))
}

// homologyNumbers returns the homology numbers of all degrees.
func homologyNumbers(x Complex) []int64 {
	numbers := make([]int64, len(x.Dims))
	for n := range numbers {
		numbers[n] = homologyNumber(x, int64(n))
	}
	return numbers
}

// vectorOf returns a row of at most MaxRows numbers as a vector.
func vectorOf(row []int64) vector {
	padded := make([]int64, MaxRows)
	copy(padded, row)
	return vector(padded)
}

// vectorsOf returns rows as vectors.
func vectorsOf(rows [][]int64) []vector {
	list := make([]vector, len(rows))
	for i, row := range rows {
		list[i] = vectorOf(row)
	}
	return list
}

// rowsOf returns the first n numbers of each vector as new rows.
func rowsOf(list []vector, n int64) [][]int64 {
	rows := zeroTable(int64(len(list)), n)
	for i, v := range list {
		copy(rows[i], v[:n])
	}
	return rows
}

// leadOf returns the place of the first number other than 0 of a vector that is not 0.
func leadOf(v vector) int {
	for place, number := range v {
		if number != 0 {
			return place
		}
	}
	return MaxRows
}

// inverseOf returns the inverse of a number other than 0 modulo p.
func inverseOf(p int64, number int64) int64 {
	inverse := int64(1)
	for inverse*number%p != 1 {
		inverse++
	}
	return inverse
}

// unitLead returns the multiple of a vector that is not 0 whose first number other than 0 is 1.
func unitLead(p int64, v vector) vector {
	inverse := inverseOf(p, v[leadOf(v)])
	for i, number := range v {
		v[i] = inverse * number % p
	}
	return v
}

// minusMultiple returns v less a factor times w.
func minusMultiple(p int64, v vector, factor int64, w vector) vector {
	for i, number := range w {
		v[i] = (v[i] + (p-factor)*number) % p
	}
	return v
}

// restModulo returns v less the sum of multiples of the rows of a reduced list with which it has
// the same numbers at their leads.
func restModulo(p int64, v vector, reduced []vector) vector {
	for _, w := range reduced {
		v = minusMultiple(p, v, v[leadOf(w)], w)
	}
	return v
}

// spaceOfRests returns the reduced list of the space of the rests of the rows of a list modulo a
// reduced list.
func spaceOfRests(p int64, list []vector, reduced []vector) []vector {
	rests := make([]vector, len(list))
	for i, v := range list {
		rests[i] = restModulo(p, v, reduced)
	}
	return reducedList(p, rests)
}

// classNumbers returns the numbers of the vectors of a basis whose sum is v, up to a vector of a
// bottom. The basis is a reduced list with 0 at the leads of the bottom, so that the rest of v
// modulo the bottom has these numbers at the leads of the basis.
func classNumbers(p int64, v vector, bottom []vector, basis []vector) []int64 {
	rest := restModulo(p, v, bottom)
	numbers := make([]int64, len(basis))
	for i, w := range basis {
		numbers[i] = rest[leadOf(w)]
	}
	return numbers
}

// unitLines returns the rows that are not 0 with 1 as their leads, each of these vectors once: rows
// that are multiples of each other make the same space, and need only one elimination.
func unitLines(p int64, list []vector) []vector {
	var lines []vector
	seen := map[vector]bool{}
	for _, v := range list {
		if v == (vector{}) {
			continue
		}
		line := unitLead(p, v)
		if !seen[line] {
			seen[line] = true
			lines = append(lines, line)
		}
	}
	return lines
}

// reducedList returns the reduced list of the space of the sums of multiples of the rows.
func reducedList(p int64, list []vector) []vector {
	var reduced []vector
rows:
	for _, v := range unitLines(p, list) {
		for _, w := range reduced {
			v = minusMultiple(p, v, v[leadOf(w)], w)
			if v == (vector{}) {
				continue rows
			}
		}
		reduced = insertRow(p, reduced, unitLead(p, v))
	}
	return reduced
}

// insertRow returns a reduced list with one more row, which has the lead 1 and 0 at the leads of
// the others. Rows with greater leads have 0 at its lead already, so all leads stay as they are.
func insertRow(p int64, reduced []vector, v vector) []vector {
	lead, place := leadOf(v), 0
	for i, w := range reduced {
		if leadOf(w) < lead {
			place = i + 1
		}
		reduced[i] = minusMultiple(p, w, w[lead], v)
	}
	return slices.Insert(reduced, place, v)
}

// annihilator returns the reduced list of the vectors of n numbers whose products with each row,
// place by place, have the sum 0.
func annihilator(p int64, n int64, list []vector) []vector {
	reduced := reducedList(p, list)
	var isLead [MaxRows]bool
	for _, w := range reduced {
		isLead[leadOf(w)] = true
	}
	var solutions []vector
	for place := range n {
		if isLead[place] {
			continue
		}
		v := vector{}
		v[place] = 1
		for _, w := range reduced {
			v[leadOf(w)] = (p - w[place]) % p
		}
		solutions = append(solutions, v)
	}
	return reducedList(p, solutions)
}

// kernelSpace returns the reduced list of the vectors of which a table with the given number of
// columns makes 0.
func kernelSpace(p int64, table [][]int64, columns int64) []vector {
	return annihilator(p, int64(len(table)), vectorsOf(transposedTable(table, columns)))
}

// sumSpace returns the reduced list of the least space with all rows of a and b.
func sumSpace(p int64, a []vector, b []vector) []vector {
	return reducedList(p, slices.Concat(a, b))
}

// meetSpace returns the reduced list of the vectors of n numbers in the spaces of both a and b. A
// vector is in a space exactly if it annihilates what annihilates the space.
func meetSpace(p int64, n int64, a []vector, b []vector) []vector {
	return annihilator(p, n, slices.Concat(annihilator(p, n, a), annihilator(p, n, b)))
}

// joinedNumbers returns the texts of numbers with a separator between them.
func joinedNumbers(numbers []int64, separator string) string {
	texts := make([]string, len(numbers))
	for i, number := range numbers {
		texts[i] = strconv.FormatInt(number, 10)
	}
	return strings.Join(texts, separator)
}

// tableText returns the text of one of the Maps.
func tableText(table [][]int64) string {
	if len(table) == 0 {
		return "-"
	}
	rows := make([]string, len(table))
	for i, row := range table {
		rows[i] = rowText(row)
	}
	return strings.Join(rows, ",")
}

// rowText returns the text of a row of numbers less than 10.
func rowText(row []int64) string {
	if len(row) == 0 {
		return "-"
	}
	digits := make([]byte, len(row))
	for i, number := range row {
		digits[i] = '0' + byte(number)
	}
	return string(digits)
}

// readComplex returns what a text of the right form tells, whether or not it is a complex.
func readComplex(text string) (Complex, bool) {
	parts := strings.SplitN(text, ":", 4)
	if len(parts) != 3 {
		return Complex{}, false
	}
	prime, primeOk := readRow(parts[0], 1)
	dims, dimsOk := readDims(parts[1])
	if !primeOk || !dimsOk {
		return Complex{}, false
	}
	maps, mapsOk := readMaps(parts[2], dims)
	return Complex{Prime: prime[0], Dims: dims, Maps: maps}, mapsOk
}

// readDims returns the Dims of a text. One digit tells each, since MaxDim is less than 10.
func readDims(text string) ([]int64, bool) {
	parts := strings.SplitN(text, ",", MaxTop+2)
	dims := make([]int64, len(parts))
	for n, part := range parts {
		dim, ok := readRow(part, 1)
		if !ok {
			return nil, false
		}
		dims[n] = dim[0]
	}
	return dims, true
}

// readMaps returns the Maps of a text for the given Dims.
func readMaps(text string, dims []int64) ([][][]int64, bool) {
	top := len(dims) - 1
	if top == 0 {
		return nil, text == ""
	}
	parts := strings.SplitN(text, ";", top+1)
	if len(parts) != top {
		return nil, false
	}
	maps := make([][][]int64, top)
	for k, part := range parts {
		table, ok := readTable(part, dims[k+1], dims[k])
		if !ok {
			return nil, false
		}
		maps[k] = table
	}
	return maps, true
}

// readTable returns the table of a text with the given numbers of rows and columns.
func readTable(text string, rows int64, columns int64) ([][]int64, bool) {
	if rows == 0 {
		return nil, text == "-"
	}
	parts := strings.SplitN(text, ",", int(rows)+1)
	if int64(len(parts)) != rows {
		return nil, false
	}
	table := make([][]int64, rows)
	for i, part := range parts {
		row, ok := readRow(part, columns)
		if !ok {
			return nil, false
		}
		table[i] = row
	}
	return table, true
}

// readRow returns the row of a text with the given number of digits.
func readRow(text string, columns int64) ([]int64, bool) {
	if columns == 0 {
		return nil, text == "-"
	}
	if int64(len(text)) != columns {
		return nil, false
	}
	row := make([]int64, columns)
	for i := range row {
		row[i] = int64(text[i]) - '0'
		if !isWithin(row[i], 0, 9) {
			return nil, false
		}
	}
	return row, true
}
