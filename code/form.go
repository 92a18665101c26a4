package code

// form is how the operands of an instruction lie behind its Op.
type form int

// The forms; the first one is that of an Op that there is not.
const (
	formAbsent form = iota
	formNone
	formByte
	formShort
	formSmall
	formWide
	formCount
	formBranch
	formTable
	formSearch
	formsInAll
)

// formRow tells that the Ops from first to last have a form.
type formRow struct {
	first, last int
	form        form
}

// formRows are the Ops that there are.
var formRows = [...]formRow{
	{0, 10, formNone}, {26, 33, formNone}, {42, 47, formNone}, {50, 51, formNone}, {59, 66, formNone},
	{75, 80, formNone}, {83, 84, formNone}, {87, 90, formNone}, {92, 92, formNone}, {95, 97, formNone},
	{100, 101, formNone}, {104, 105, formNone}, {108, 109, formNone}, {112, 113, formNone}, {116, 117, formNone},
	{120, 131, formNone}, {133, 133, formNone}, {136, 136, formNone}, {145, 148, formNone}, {172, 173, formNone},
	{176, 177, formNone}, {190, 191, formNone}, {194, 195, formNone},
	{16, 16, formByte},
	{17, 17, formShort},
	{18, 18, formSmall}, {21, 22, formSmall}, {25, 25, formSmall}, {54, 55, formSmall}, {58, 58, formSmall},
	{188, 188, formSmall},
	{19, 20, formWide}, {178, 184, formWide}, {187, 187, formWide}, {189, 189, formWide}, {192, 193, formWide},
	{132, 132, formCount},
	{153, 167, formBranch}, {198, 199, formBranch},
	{170, 170, formTable},
	{171, 171, formSearch},
}

// formOf answers the form of the instructions of an Op.
func formOf(op int) form {
	for _, r := range formRows {
		if r.first <= op && op <= r.last {
			return r.form
		}
	}
	return formAbsent
}

// shortForm tells that the Ops from first to last are short for another one, with A counted up from a on.
type shortForm struct{ first, last, plain, a int }

// shortForms are the Ops that have their A in themselves.
var shortForms = [...]shortForm{
	{2, 8, 17, -1}, {10, 10, 9, 1}, {26, 29, 21, 0}, {30, 33, 22, 0}, {42, 45, 25, 0}, {59, 62, 54, 0}, {63, 66, 55, 0},
	{75, 78, 58, 0},
}
