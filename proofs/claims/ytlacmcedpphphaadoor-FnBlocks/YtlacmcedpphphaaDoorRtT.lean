/- The specification's text of a rule, the whole. -/
import Derived.Test.YtlacmcedpphphaaDoorRtS
namespace Go.Proofs.YtlacmcedpphphaaDoor
open Go.RowKit Go.Shelf Go.Maps Go.WideMaps

def dec (k : Int) : List UInt8 := Lib.decDigits k.toNat
theorem dec_len {k : Int} (h : k ≤ 999) : (dec k).length ≤ 10 := digits_len _ (by omega)
theorem digits_int {k : Int} (h0 : 0 ≤ k) (h1 : k ≤ 999) (w : World) : Calls Tryd.prog 34 #[.int .i64 k] w fun e w' => e = .returned (.string (str (dec k))) ∧ Below w.heap.size w w' := by
  obtain ⟨n, rfl⟩ := Int.eq_ofNat_of_zero_le h0
  exact l2Digits_any n (by omega) w

end Go.Proofs.YtlacmcedpphphaaDoor
