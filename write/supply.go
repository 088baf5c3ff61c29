package write

// The trees of which a program makes the code of a program of spec.Spec, without knowing what is supplied.
const (
	SupplyRegister = "100"           // the number of the register that the first instruction sets
	SupplySecond   = "1101001011000" // the code of the second instruction, cons 0 1 0
	SupplyThird    = "1011000"       // the code of the third instruction, set 1 0
)
