/-
  THE NUMBERS OF FnCells: multiples of an eighth and of a quarter, what they give when divided, cut down and multiplied back; each pair checked by the kernel.
-/
import Derived.Test.YtaihooljphkpeaaFl
import Derived.Test.YtaihooljphkpeaaBits
import Derived.Laws.FloatArith
namespace Go.Proofs.Ytaihooljphkpeaa.Fl
/-- a coordinate: (k - 64) / 8 -/
def plB (k : Nat) : Nat := (floatBits .quo .f32 (floatOfInt .f32 ((k : Int) - 64)) 1090519040).getD 0
/-- a side: (1 + j) / 4 -/
def sdB (j : Nat) : Nat := (floatBits .quo .f32 (floatOfInt .f32 (1 + (j : Int))) 1082130432).getD 0
def qB (a s : Nat) : Nat := (floatBits .quo .f64 (widen a) (widen s)).getD 0
def flB (a s : Nat) : Nat := FloatKind.f64.encode ((FloatKind.f64.decode (qB a s)).integral .down)
def ceB (a s : Nat) : Int := (floatToIntVal .f64 (flB a s) .i32).getD 0
def mulB (c : Int) (s : Nat) : Nat := (floatBits .mul .f64 (floatOfInt .f64 c) (widen s)).getD 0
def coB (c : Int) (s : Nat) : Nat := (floatToFloatBits .f64 (mulB c s) .f32).getD 0
def geq64 (a b : Nat) : Bool := FloatKind.f64.format.order a b == some .gt || FloatKind.f64.format.order a b == some .eq
def leq64 (a b : Nat) : Bool := FloatKind.f64.format.order a b == some .lt || FloatKind.f64.format.order a b == some .eq
def isNum64 (a : Nat) : Bool := match FloatKind.f64.decode a with | .nan _ _ => false | _ => true
/-- a number of a cell that is one -/
def cellNum (f : Nat) : Bool := geq64 f 13965662444475908096 && leq64 f 4742290407621132288
/-- the cell of a coordinate -/
def partOk (a s : Nat) (c : Int) : Bool := decide (a < 4294967296) && decide (kd a < 3) && decide (floatBits .quo .f64 (widen a) (widen s) = some (qB a s)) && isNum64 (qB a s) && cellNum (flB a s) && decide (floatToIntVal .f64 (flB a s) .i32 = some c)
def cornerOk (c : Int) (s : Nat) : Bool := cellNum (floatOfInt .f64 c) && decide (floatBits .mul .f64 (floatOfInt .f64 c) (widen s) = some (mulB c s)) && decide (floatToFloatBits .f64 (mulB c s) .f32 = some (coB c s))
def pairOk (k j : Nat) : Bool :=
  let a := plB k
  let s := sdB j
  let c := ceB a s
  partOk a s c && decide (-1000 ≤ c) && decide (c ≤ 1000) && cornerOk c s && cornerOk (c + 1) s && partOk (coB c s) s c &&
  !(FloatKind.f32.format.order (coB c s) a == some .gt) && !(FloatKind.f32.format.order (coB (c + 1) s) a == some .lt || FloatKind.f32.format.order (coB (c + 1) s) a == some .eq)
def plOk (k : Nat) : Bool := decide (floatBits .quo .f32 (floatOfInt .f32 ((k : Int) - 64)) 1090519040 = some (plB k))
def sdOk (j : Nat) : Bool := decide (floatBits .quo .f32 (floatOfInt .f32 (1 + (j : Int))) 1082130432 = some (sdB j)) && decide (sdB j < 4294967296) && decide (kd (sdB j) < 3) && (FloatKind.f32.format.order (sdB j) 0 == some .gt)
theorem all_pl : (List.range 129).all plOk = true := by decide +kernel
theorem all_sd : (List.range 16).all sdOk = true := by decide +kernel
theorem pairs0 : ((List.range 129).all fun k => pairOk k 0) = true := by decide +kernel
theorem pairs1 : ((List.range 129).all fun k => pairOk k 1) = true := by decide +kernel
theorem pairs2 : ((List.range 129).all fun k => pairOk k 2) = true := by decide +kernel
theorem pairs3 : ((List.range 129).all fun k => pairOk k 3) = true := by decide +kernel
theorem pairs4 : ((List.range 129).all fun k => pairOk k 4) = true := by decide +kernel
theorem pairs5 : ((List.range 129).all fun k => pairOk k 5) = true := by decide +kernel
theorem pairs6 : ((List.range 129).all fun k => pairOk k 6) = true := by decide +kernel
theorem pairs7 : ((List.range 129).all fun k => pairOk k 7) = true := by decide +kernel
theorem pairs8 : ((List.range 129).all fun k => pairOk k 8) = true := by decide +kernel
theorem pairs9 : ((List.range 129).all fun k => pairOk k 9) = true := by decide +kernel
theorem pairs10 : ((List.range 129).all fun k => pairOk k 10) = true := by decide +kernel
theorem pairs11 : ((List.range 129).all fun k => pairOk k 11) = true := by decide +kernel
theorem pairs12 : ((List.range 129).all fun k => pairOk k 12) = true := by decide +kernel
theorem pairs13 : ((List.range 129).all fun k => pairOk k 13) = true := by decide +kernel
theorem pairs14 : ((List.range 129).all fun k => pairOk k 14) = true := by decide +kernel
theorem pairs15 : ((List.range 129).all fun k => pairOk k 15) = true := by decide +kernel
end Go.Proofs.Ytaihooljphkpeaa.Fl
