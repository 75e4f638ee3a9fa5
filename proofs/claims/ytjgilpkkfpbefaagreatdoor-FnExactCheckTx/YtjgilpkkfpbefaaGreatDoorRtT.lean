/- The specification's text of a rule, the whole. -/
import Derived.Test.YtjgilpkkfpbefaaGreatDoorRtS
namespace Go.Proofs.YtjgilpkkfpbefaaGreatDoor
open Go.RowKit Go.Shelf Go.Maps Go.WideMaps

def dec (k : Int) : List UInt8 := Lib.decDigits k.toNat
def tailT : List Int → List UInt8
  | [] => []
  | k :: t => 44 :: (dec k ++ tailT t)
def keysT : List Int → List UInt8
  | [] => []
  | k :: t => dec k ++ tailT t
def aftT (y : Int) : List UInt8 := if y = 0 then [] else [32, 97, 102, 116, 101, 114, 32] ++ dec y
def rtxR (l : List Int) (x y : Int) : List UInt8 := dec x ++ [32, 111, 102, 32] ++ keysT l ++ aftT y

theorem tailT_snoc (l : List Int) (k : Int) : tailT (l ++ [k]) = tailT l ++ (44 :: dec k) := by
  induction l with
  | nil => simp [tailT]
  | cons a t ih => simp [tailT, ih]
theorem keysT_snoc {l : List Int} (h : l ≠ []) (k : Int) : keysT (l ++ [k]) = keysT l ++ (44 :: dec k) := by
  cases l with
  | nil => exact absurd rfl h
  | cons a t => simp [keysT, tailT_snoc]
theorem dec_len {k : Int} (h : k ≤ 999) : (dec k).length ≤ 10 := digits_len _ (by omega)
theorem digits_int {k : Int} (h0 : 0 ≤ k) (h1 : k ≤ 999) (w : World) : Calls Tryz.prog 74 #[.int .i64 k] w fun e w' => e = .returned (.string (str (dec k))) ∧ Below w.heap.size w w' := by
  obtain ⟨n, rfl⟩ := Int.eq_ofNat_of_zero_le h0
  exact l2Digits_any n (by omega) w

end Go.Proofs.YtjgilpkkfpbefaaGreatDoor
